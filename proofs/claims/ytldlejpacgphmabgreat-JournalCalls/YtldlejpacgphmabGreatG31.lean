import Derived.Test.YtldlejpacgphmabGreatG30
import Derived.Test.YtldlejpacgphmabGreatG22
namespace Go.Proofs.YtldlejpacgphmabGreat
open Go.RowKit
variable {X0 : Nat → Prop}
theorem AppendU {Z : Nat → Prop} {wA : World} {j c p room nb K fr bl : Nat} {d : Pd} {s : Js} {lasted : Nat} {home : Nat → List Int} {Ts : List Tn} (hJ : Jq Z wA j c p room nb K fr bl d s) (hfu : d.fu = -1) (hOn : On d s nb fr bl lasted home Ts) (hlo : 16 ≤ bl) (hfit : fr + bl ≤ nb) (a0 : Option Addr) (lc : Nat) {ps qs : List Pm} (hR : RdP Z wA a0 qs) (hsay : qs.map Pm.say = ps.map Pm.say) (hN : qs.length ≤ 1073741823) :
  Calls Tryz.prog 17 #[.pointer (some ⟨j, 0, none⟩), .slice a0 qs.length lc] wA fun e wB => e = .returned (.int .i64 (fitsC nb fr bl Ts.length ps)) ∧ ∃ Z' d' s', Jq Z' wB j c p room nb K fr bl d' s' ∧ (∀ k, Z' k → k < wB.heap.size) ∧ Gr Z Z' wA ∧ But Z wA wB ∧ d'.fu = -1 ∧ (fitsC nb fr bl Ts.length ps = 0 → On d' s' nb fr bl lasted home (Ts ++ [ps.map Pm.put])) ∧ (fitsC nb fr bl Ts.length ps ≠ 0 → On d' s' nb fr bl lasted home Ts) := by
 have hnb := hJ.fits.2.2
 have hpl := hOn.puts hlo hfit hnb
 have hc : appC nb fr bl d s qs = fitsC nb fr bl Ts.length ps := by rw [appC_on hOn.on hsay, hOn.sq]
 refine Calls.mono (Append_on hJ (hOn.jn hlo hfit hnb) hOn.on a0 lc qs hR hN (by omega)) ?_
 rintro e wB ⟨h1, h2⟩
 rw [hc] at h1 h2
 by_cases hz : fitsC nb fr bl Ts.length ps = 0
 ·obtain ⟨rfl, ⟨Z', s', q1, q2, q3⟩, q4⟩ := h1 hz
  obtain ⟨f1, _, f3⟩ := Pd.runs_free hOn.on hfu (wlCmds nb fr bl s (appRecs qs))
  rw [f1, hz]
  have hq := q2 f1
  subst hq
  refine ⟨rfl, _, _, _, q1.cut, fun k q => q.2, fun k hk q => q3 k hk q.1, q4, f3, fun _ => ?_, fun q => absurd rfl q⟩
  have := (hOn.append hJ.fits.1 hlo hfit hnb (ps := qs) (fun p hp => (hR.1 p hp).2.1) (by rw [hc]; exact hz)).1 f1
  rw [say_put qs ps hsay] at this
  exact this
 ·obtain ⟨rfl, b⟩ := h2 hz
  exact ⟨rfl, _, d, s, (hJ.cut).below b, fun k q => Nat.lt_of_lt_of_le q.2 b.size, fun k hk q => q.1, But.of_below b, hfu, fun q => absurd q hz, fun _ => hOn⟩
theorem Wx.after {Z : Nat → Prop} {w : World} {wb p c j g room nb fr bl K lasted : Nat} {tried tl td : Value} {hb hc : Nat} {H : List Int} {ta : Option Addr} {tc : Nat} {vs : List Value} {Us : List (List Pm)} {Ls : List Ln} {n1 : Nat} {cs : List Value} {d : Pd} {s : Js} (h : Wx X0 Z w wb p c j g room nb fr bl K lasted tried tl td hb hc H ta tc vs Us Ls n1 cs d s) {w0 wA wB wC : World} (b0 : Below w.heap.size w w0) {lb n2 lc : Nat} {td' : Value} {Ls' : List Ln} {Zs : List (List Int)} {cs' : List Value} {Z' : Nat → Prop} {d' : Pd} {s' : Js}
  (hbA : But (fun k => k = wb ∨ TrB td Ls k ∨ tl.ownBlock = some k) w0 wA) (hgr : ∀ k, k < w0.heap.size → TrB td' Ls' k → TrB td Ls k) (hlb : tl.ownBlock = some lb ∨ w0.heap.size ≤ lb) (hnT : ¬ TrB td' Ls' lb) (hn2 : n2 ≤ 2147483648) (hnl : Ls'.length ≤ 1073741823) (htA : Tr wA td' Ls' Zs) (hllA : lb < wA.heap.size)
  (hJ : Jq Z' wB j c p room nb K fr bl d' s') (hzb : ∀ k, Z' k → k < wB.heap.size) (hGr : Gr Z Z' wA) (hbB : But Z wA wB) (hfu : d'.fu = -1)
  (hwdC : Wb wC wb p c (.pointer (some ⟨j, 0, none⟩)) g (room : Int) (lasted : Int) false false tried (.slice (some ⟨lb, 0, none⟩) n2 lc) td') (htC : Tr wC td' Ls' []) (hlC : wC.ownsRow 0 97 2 (.slice (some ⟨lb, 0, none⟩) n2 lc) n2 cs') (hbC : But (fun k => k = lb ∨ TrB td' Ls' k) wB wC) :
  Wx X0 Z' wC wb p c j g room nb fr bl K lasted tried (.slice (some ⟨lb, 0, none⟩) n2 lc) td' hb hc H ta tc vs Us Ls' n2 cs' d' s' ∧ But (fun k => Z k ∨ k = wb ∨ TB tl td Ls k) w wC ∧ (∀ k, k < w.heap.size → (Z' k ∨ k = wb ∨ TB (.slice (some ⟨lb, 0, none⟩) n2 lc) td' Ls' k) → (Z k ∨ k = wb ∨ TB tl td Ls k)) := by
 have s0 := b0.size
 have sA := hbA.size
 have sB := hbB.size
 have hwl := h.wd.lt
 have hlbk : ∀ k, (Value.slice (some ⟨lb, 0, none⟩) n2 lc).ownBlock = some k → k = lb := fun k e => by
  have e2 : lb = k := by injection e
  exact e2.symm
 have hTw : ∀ k, k < w.heap.size → TB (.slice (some ⟨lb, 0, none⟩) n2 lc) td' Ls' k → TB tl td Ls k := fun k hk q => by
  rcases q with q | q
  ·have := hlbk k q
   subst this
   rcases hlb with r | r
   ·exact .inl r
   ·omega
  ·exact .inr (hgr k (by omega) q)
 have hTA : ∀ k, TB (.slice (some ⟨lb, 0, none⟩) n2 lc) td' Ls' k → k < wA.heap.size := fun k q => by
  rcases q with q | q
  ·rw [hlbk k q]; exact hllA
  ·exact htA.lt q
 have hZ : ∀ k, k < wA.heap.size → Z' k → Z k ∧ k < w.heap.size := fun k hk q => ⟨hGr k hk q, h.zb k (hGr k hk q)⟩
 have hzt : ∀ k, TB (.slice (some ⟨lb, 0, none⟩) n2 lc) td' Ls' k → ¬ Z' k := fun k q r => by
  obtain ⟨r1, r2⟩ := hZ k (hTA k q) r
  exact h.zt k (hTw k r2 q) r1
 have bt : But (fun k => Z k ∨ k = wb ∨ TB tl td Ls k) w wC := by
  have c1 : But (fun k => Z k ∨ k = wb ∨ TB tl td Ls k) w wA := (But.of_below b0 (X := fun k => Z k ∨ k = wb ∨ TB tl td Ls k)).comp hbA (fun k _ q => by
   rcases q with q | q | q
   ·exact .inr (.inl q)
   ·exact .inr (.inr (.inr q))
   ·exact .inr (.inr (.inl q)))
  have c2 := c1.comp hbB (fun k _ q => .inl q)
  exact c2.comp hbC (fun k hk q => .inr (.inr (hTw k hk (by
   rcases q with q | q
   ·rw [q]; exact .inl rfl
   ·exact .inr q))))
 have hgrw : ∀ k, k < w.heap.size → (Z' k ∨ k = wb ∨ TB (.slice (some ⟨lb, 0, none⟩) n2 lc) td' Ls' k) → (Z k ∨ k = wb ∨ TB tl td Ls k) := fun k hk q => by
  rcases q with q | q | q
  ·exact .inl (hZ k (by omega) q).1
  ·exact .inr (.inl q)
  ·exact .inr (.inr (hTw k hk q))
 refine ⟨⟨hwdC, h.lg.butX (X := fun k => Z k ∨ k = wb ∨ TB tl td Ls k) bt (fun _ _ q => q) (fun k => Z' k ∨ k = wb ∨ TB (.slice (some ⟨lb, 0, none⟩) n2 lc) td' Ls' k) hgrw, ?_, hfu, htC, hlC, hn2, hnl, ?_, hzt, ?_, ?_, ?_, h.lo, h.fit, h.r1, h.r2, fun k q => Nat.lt_of_lt_of_le (h.x0 k q) (by first | exact hbt.size | exact bt.size | exact Nat.le_refl _ | omega)⟩, bt, hgrw⟩
 ·exact hJ.but hbC (fun k _ q r => hzt k (by
   rcases r with r | r
   ·rw [r]; exact .inl rfl
   ·exact .inr r) q)
 ·intro q
  exact h.zw (hZ wb (by omega) q).1
 ·exact fun q => h.tw (hTw wb hwl q)
 ·intro k e
  rw [hlbk k e]
  exact hnT
 ·exact fun k q => Nat.lt_of_lt_of_le (hzb k q) hbC.size
open Go.RowKit
variable {X0 : Nat → Prop}
theorem Wx.logged {Z : Nat → Prop} {w w' : World} {wb p c j g room nb fr bl K lasted : Nat} {tried tl td : Value} {hb hc : Nat} {H : List Int} {ta ta' : Option Addr} {tc tc' : Nat} {vs vs' : List Value} {Us Us' : List (List Pm)} {Ls : List Ln} {n1 : Nat} {cs : List Value} {d : Pd} {s : Js} (h : Wx X0 Z w wb p c j g room nb fr bl K lasted tried tl td hb hc H ta tc vs Us Ls n1 cs d s) (hL : LgW (fun k => ((Z k ∨ k = wb ∨ TB tl td Ls k) ∨ X0 k) ∧ k < w.heap.size) w' g hb hc nb fr bl H ta' tc' vs' Us') (hbt : But (fun k => k = g ∨ (Value.slice ta Us.length tc).ownBlock = some k) w w') : Wx X0 Z w' wb p c j g room nb fr bl K lasted tried tl td hb hc H ta' tc' vs' Us' Ls n1 cs d s := by
 have hn : ∀ k, (Z k ∨ k = wb ∨ TB tl td Ls k) → ¬ (k = g ∨ (Value.slice ta Us.length tc).ownBlock = some k) := fun k q r => by
  rcases r with r | r
  ·exact h.lg.ng (.inl (by rw [← r]; exact q))
  ·exact (h.lg.nt k r).1 (.inl q)
 have hlt : ∀ k, (Z k ∨ k = wb ∨ TB tl td Ls k) → k < w.heap.size := fun k q => by
  rcases q with q | q | q
  ·exact h.zb k q
  ·rw [q]; exact h.wd.lt
  ·exact h.tlt q
 exact ⟨h.wd.keep (hbt.block wb h.wd.lt (hn wb (.inr (.inl rfl)))), hL.below (Below.refl _ _) _ (fun k _ q => ⟨q, q.elim (hlt k) (h.x0 k)⟩), h.jq.but hbt (fun k _ q => hn k (.inl q)), h.fu, h.tr.but hbt (fun k _ q => hn k (.inr (.inr (.inr q)))), owns_keep h.ls (fun k e => hbt.block k (World.ownsRow.lt h.ls k e).2 (hn k (.inr (.inr (.inl e))))), h.n1, h.nl, h.zw, h.zt, h.tw, h.lt, fun k q => Nat.lt_of_lt_of_le (h.zb k q) hbt.size, h.lo, h.fit, h.r1, h.r2, fun k q => Nat.lt_of_lt_of_le (h.x0 k q) (by first | exact hbt.size | exact bt.size | exact Nat.le_refl _ | omega)⟩
def Mu (Z : Nat → Prop) (wb : Nat) (tl td : Value) (Ls : List Ln) (g : Nat) (tv : Value) (k : Nat) : Prop := (Z k ∨ k = wb ∨ TB tl td Ls k) ∨ k = g ∨ tv.ownBlock = some k
def WD (X0 W : Nat → Prop) (w : World) (wb room nb fr bl K lasted : Nat) (H : List Int) (Us : List (List Pm)) : Prop :=
 ∃ Z p c j g tried tl td hb hc ta tc vs Ls n1 cs d s, Wx X0 Z w wb p c j g room nb fr bl K lasted tried tl td hb hc H ta tc vs Us Ls n1 cs d s ∧ On d s nb fr bl lasted (imgB H) (plainT Us) ∧ W = Mu Z wb tl td Ls g (.slice ta Us.length tc)
theorem Wx.mu_lt {Z : Nat → Prop} {w : World} {wb p c j g room nb fr bl K lasted : Nat} {tried tl td : Value} {hb hc : Nat} {H : List Int} {ta : Option Addr} {tc : Nat} {vs : List Value} {Us : List (List Pm)} {Ls : List Ln} {n1 : Nat} {cs : List Value} {d : Pd} {s : Js} (h : Wx X0 Z w wb p c j g room nb fr bl K lasted tried tl td hb hc H ta tc vs Us Ls n1 cs d s) {k : Nat} (hk : Mu Z wb tl td Ls g (.slice ta Us.length tc) k) : k < w.heap.size := by
 rcases hk with (q | q | q) | q | q
 ·exact h.zb k q
 ·rw [q]; exact h.wd.lt
 ·exact h.tlt q
 ·rw [q]; exact h.lg.gl
 ·exact (World.ownsRow.lt h.lg.row k q).2
theorem fits_ne24 (nb fr bl n : Nat) (ps : List Pm) : fitsC nb fr bl n ps ≠ 24 := by
 have hp : putsC nb fr bl ps ≠ 24 := by
  induction ps with
  | nil =>
   show (0 : Int) ≠ 24
   decide
  | cons p ps ih =>
   unfold putsC
   split
   ·unfold putC homeC
    split <;> (try split) <;> (try split) <;> decide
   ·exact ih
 unfold fitsC
 split
 ·exact hp
 ·split
  ·decide
  ·split <;> decide
theorem fits_zero {nb fr bl n : Nat} {ps : List Pm} (h : fitsC nb fr bl n ps = 0) : ∀ p ∈ ps, putC nb fr bl p.at_ p.data.length = 0 := by
 have hz : putsC nb fr bl ps = 0 := Classical.byContradiction fun q => by
  unfold fitsC at h
  rw [if_pos q] at h
  exact q h
 clear h
 induction ps with
 | nil => intro p hp; cases hp
 | cons a ps ih =>
  unfold putsC at hz
  have ha : putC nb fr bl a.at_ a.data.length = 0 := Classical.byContradiction fun q => by rw [if_pos q] at hz; exact q hz
  rw [if_neg (fun q => q ha)] at hz
  intro p hp
  rcases List.mem_cons.1 hp with rfl | hp
  ·exact ha
  ·exact ih hz p hp
def AppW (X0 W : Nat → Prop) (w : World) (wb room nb fr bl K lasted : Nat) (H : List Int) (Us : List (List Pm)) (ps : List Pm) (e : Ending) (w' : World) : Prop :=
 e = .returned (.bool true) ∧ But W w w' ∧ ∃ W' Us', WD X0 W' w' wb room nb fr bl K lasted H Us' ∧ (∀ k, k < w.heap.size → W' k → W k) ∧ ((fitsC nb fr bl Us.length ps = 0 ∧ ∃ qs, Us' = Us ++ [qs] ∧ qs.map Pm.say = ps.map Pm.say) ∨ (fitsC nb fr bl Us.length ps ≠ 0 ∧ Us' = Us))
set_option maxRecDepth 100000 in
set_option maxHeartbeats 4000000 in
theorem append_any {W : Nat → Prop} {w : World} {wb room nb fr bl K lasted : Nat} {H : List Int} {Us : List (List Pm)} (hWD : WD X0 W w wb room nb fr bl K lasted H Us) (a0 : Option Addr) (cp : Nat) (ps : List Pm) (hR : RdP W w a0 ps) (hN : ps.length ≤ 536870912) (hd : ∀ p ∈ ps, p.data.length ≤ 16777216 ∧ (p.ad = none → p.cap = 0)) :
  Calls Tryz.prog 44 #[.pointer (some ⟨wb, 0, none⟩), .slice a0 ps.length cp] w (AppW X0 W w wb room nb fr bl K lasted H Us ps) := by
 obtain ⟨Z, p, c, j, g, tried, tl, td, hb, hc, ta, tc, vs, Ls, n1, cs, d, s, h, hOn, hW⟩ := hWD
 obtain ⟨PO, hPO⟩ : ∃ PO : Ending → World → Prop, PO = AppW X0 W w wb room nb fr bl K lasted H Us ps := ⟨_, rfl⟩
 rw [← hPO]
 have hUl : (plainT Us).length = Us.length := by simp [plainT]
 have hUs := (hOn.us h.lo h.fit h.nb).2
 have hisb : ∀ p ∈ ps, Pl.isB p.data := fun p hp => (hR.1 p hp).2.1
 have hTW : ∀ k, TrB td Ls k → W k := fun k q => by rw [hW]; exact .inl (.inr (.inr (.inr q)))
 have hwW : W wb := by rw [hW]; exact .inl (.inr (.inl rfl))
 have k2 : w.cell? ⟨wb, 2, none⟩ = some (.pointer (some ⟨j, 0, none⟩)) := h.wd.cell 2
 have hTr0 : Tr w.drew td Ls [] := h.tr.keep (fun _ _ _ => rfl)
 have hRd : RdP (fun k => k = wb ∨ TrB td Ls k) w.drew a0 ps := hR.but (But.refl (fun _ => False) w).drew (fun _ _ q => q.elim) _ (fun k _ q => by rcases q with q | q; rw [q]; exact hwW; exact hTW k q)
 have HLe := hid (lend_any (w := w.drew) (h.wd.keep rfl) hTr0 (fun q => h.tw (.inr q)) h.nl (owns_below h.ls (Below.refl _ _).drew) h.n1 (fun k e => ⟨h.lt k e, fun q => h.tw (.inl (by rw [← q]; exact e))⟩) a0 cp ps hRd hN (fun p hp => (hd p hp).1))
 obtain ⟨code, hcode⟩ : ∃ code : Int, code = fitsC nb fr bl Us.length ps := ⟨_, rfl⟩
 -- behind lend
 have HAf : Hid (∀ (e : Ending) (wA : World), LendP w.drew wb p c (.pointer (some ⟨j, 0, none⟩)) g (room : Int) (lasted : Int) false false tried tl td Ls ps e wA → ∃ lb lc, e = .returned (.slice (some ⟨lb, 0, none⟩) ps.length lc) ∧ wA.cell? ⟨wb, 2, none⟩ = some (.pointer (some ⟨j, 0, none⟩)) ∧ Calls Tryz.prog 17 #[.pointer (some ⟨j, 0, none⟩), .slice (some ⟨lb, 0, none⟩) ps.length lc] wA fun e wB => e = .returned (.int .i64 code) ∧ wB.cell? ⟨wb, 2, none⟩ = some (.pointer (some ⟨j, 0, none⟩)) ∧
   Calls Tryz.prog 103 #[.pointer (some ⟨wb, 9, none⟩), .slice a0 ps.length cp] wB fun e wC => e = .returned (.bool true) ∧ ∃ Z' tl' td' Ls' n2 csC d' s', Wx X0 Z' wC wb p c j g room nb fr bl K lasted tried tl' td' hb hc H ta tc vs Us Ls' n2 csC d' s' ∧ But (fun k => Z k ∨ k = wb ∨ TB tl td Ls k) w wC ∧ (∀ k, k < w.heap.size → (Z' k ∨ k = wb ∨ TB tl' td' Ls' k) → (Z k ∨ k = wb ∨ TB tl td Ls k)) ∧ (code = 0 → On d' s' nb fr bl lasted (imgB H) (plainT Us ++ [ps.map Pm.put])) ∧ (code ≠ 0 → On d' s' nb fr bl lasted (imgB H) (plainT Us))) := by
  rintro e wA ⟨lb, lc, n2, csA, td', Ls', qs, rfl, hwdA, htA, hLP, hrowA, hn2, hlb, hnT, hbA, hgr, hnl⟩
  have hql : qs.length = ps.length := by have := congrArg List.length hLP.1; simpa using this
  have hllA := (World.ownsRow.lt hrowA lb rfl).2
  have hZA : ∀ k, TrB td' Ls' k → ¬ Z k := fun k q r => h.zt k (.inr (hgr k (h.zb k r) q)) r
  have hlZ : ¬ Z lb := fun r => by
   rcases hlb with q | q
   ·exact h.zt lb (.inl q) r
   ·have : w.heap.size ≤ lb := q
    have := h.zb lb r
    omega
  have hJA : Jq Z wA j c p room nb K fr bl d s := (h.jq.below (Below.refl _ _).drew).but hbA (fun k _ q r => by
   rcases r with r | r | r
   ·exact h.zw (by rw [← r]; exact q)
   ·exact h.zt k (.inr r) q
   ·exact h.zt k (.inl r) q)
  have hap := AppendU hJA h.fu hOn h.lo h.fit (some ⟨lb, 0, none⟩) lc (ps := ps) (lent_rd htA hLP hrowA hisb hZA hlZ) hLP.1 (by omega)
  rw [hql, hUl, ← hcode] at hap
  refine ⟨lb, lc, rfl, hwdA.cell 2, Calls.mono hap ?_⟩
  rintro e wB ⟨rfl, Z', d', s', hJ, hzb, hGr, hbB, hfu, on0, on1⟩
  have hwlA := hwdA.lt
  have hwdB := hwdA.keep (hbB.block wb hwlA h.zw)
  refine ⟨rfl, hwdB.cell 2, ?_⟩
  have hlw : lb ≠ wb := fun e => by
   rcases hlb with q | q
   ·exact h.tw (.inl (by rw [q, e]))
   ·have : w.heap.size ≤ lb := q
    have := h.wd.lt
    omega
  have hwT : ¬ TrB td' Ls' wb := fun q => h.tw (.inr (hgr wb h.wd.lt q))
  have htB := htA.but hbB (fun k _ q r => hZA k q r)
  have hrB := owns_keep (w' := wB) hrowA (fun k e => by
   have e2 : lb = k := by injection e
   subst e2
   exact hbB.block lb hllA hlZ)
  have hRB : RdP (fun k => k = lb ∨ TrB td' Ls' k) wB a0 ps := by
   have b1 : But W w wB := ((But.refl W w).drew.comp hbA (fun k _ q => by
    rcases q with q | q | q
    ·rw [q]; exact hwW
    ·exact hTW k q
    ·rw [hW]; exact .inl (.inr (.inr (.inl q))))).comp hbB (fun k _ q => by rw [hW]; exact .inl (.inl q))
   refine hR.but b1 (fun _ _ q => q) _ (fun k hk q => ?_)
   rcases q with q | q
   ·rcases hlb with r | r
    ·rw [hW, q]; exact .inl (.inr (.inr (.inl r)))
    ·have : w.heap.size ≤ lb := r
     omega
   ·exact hTW k (hgr k hk q)
  refine Calls.mono (back_any hwdB htB hLP hrB hwT hnT hlw a0 cp hRB hN (fun p hp => (hd p hp).1)) ?_
  rintro e wC ⟨rfl, hwdC, htC, ⟨csC, hlC⟩, hbC⟩
  obtain ⟨x1, x2, x3⟩ := h.after (Below.refl _ _).drew hbA hgr hlb hnT hn2 hnl htA hllA hJ hzb hGr hbB hfu hwdC htC hlC hbC
  exact ⟨rfl, Z', _, td', Ls', n2, csC, d', s', x1, x2, x3, on0, on1⟩
 have hc24 : ¬ code = 24 := by rw [hcode]; exact fits_ne24 _ _ _ _ _
 have HNm := hid (num_any code)
 have hwl := h.wd.lt
 -- behind back
 have HX : Hid (∀ (wC : World), (∃ Z' tl' td' Ls' n2 csC d' s', Wx X0 Z' wC wb p c j g room nb fr bl K lasted tried tl' td' hb hc H ta tc vs Us Ls' n2 csC d' s' ∧ But (fun k => Z k ∨ k = wb ∨ TB tl td Ls k) w wC ∧ (∀ k, k < w.heap.size → (Z' k ∨ k = wb ∨ TB tl' td' Ls' k) → (Z k ∨ k = wb ∨ TB tl td Ls k)) ∧ (code = 0 → On d' s' nb fr bl lasted (imgB H) (plainT Us ++ [ps.map Pm.put])) ∧ (code ≠ 0 → On d' s' nb fr bl lasted (imgB H) (plainT Us))) →
   wC.cell? ⟨wb, 3, none⟩ = some (.pointer (some ⟨g, 0, none⟩)) ∧ Calls Tryz.prog 104 #[.pointer (some ⟨g, 0, none⟩), .slice a0 ps.length cp] wC fun e wD => e = .returned (.int .i64 code) ∧ wD.cell? ⟨wb, 3, none⟩ = some (.pointer (some ⟨g, 0, none⟩)) ∧ (code ≠ 0 → PO (.returned (.bool true)) wD) ∧ (code = 0 → Calls Tryz.prog 105 #[.slice a0 ps.length cp] wD.drew fun e wE => ∃ gq cq, e = .returned (.slice (some ⟨gq, 0, none⟩) ps.length cq) ∧ wE.cell? ⟨wb, 3, none⟩ = some (.pointer (some ⟨g, 0, none⟩)) ∧ Calls Tryz.prog 106 #[.pointer (some ⟨g, 0, none⟩), .slice (some ⟨gq, 0, none⟩) ps.length cq] wE fun e wF => e = .returned (.int .i64 0) ∧ wF.cell? ⟨wb, 3, none⟩ = some (.pointer (some ⟨g, 0, none⟩)) ∧ PO (.returned (.bool true)) wF)) := by
  rintro wC ⟨Z', tl', td', Ls', n2, csC, d', s', x1, x2, x3, on0, on1⟩
  have hbW : But W w wC := x2.mono (fun k _ q => by rw [hW]; exact .inl q)
  have hRC : RdP W wC a0 ps := hR.but hbW (fun _ _ q => q) _ (fun _ _ q => q)
  refine ⟨x1.wd.cell 3, ?_⟩
  have hf := refFits_any x1.lg.lg x1.lg.gl x1.nb x1.fit x1.lo (by omega) a0 cp ps hRC (by omega)
  rw [← hcode] at hf
  refine Calls.mono hf ?_
  rintro e wD ⟨rfl, bD⟩
  have x1D := x1.below bD
  have hbD : But W w wD := hbW.comp (But.of_below bD (X := fun _ => False)) (fun _ _ q => q.elim)
  refine ⟨rfl, x1D.wd.cell 3, fun hc0 => ?_, fun hc0 => ?_⟩
  ·rw [hPO]
   refine ⟨rfl, hbD, _, Us, ⟨Z', p, c, j, g, tried, tl', td', hb, hc, ta, tc, vs, Ls', n2, csC, d', s', x1D, on1 hc0, rfl⟩, fun k hk q => ?_, .inr ⟨by rw [← hcode]; exact hc0, rfl⟩⟩
   rw [hW]
   rcases q with q | q
   ·exact .inl (x3 k hk q)
   ·exact .inr q
  ·have hRD : RdP W wD.drew a0 ps := (hRC.low bD).low (Below.refl _ _).drew
   refine Calls.mono (CopyPuts_any wD.drew a0 cp ps hRD (by omega) (fun p hp => ⟨by have := (hd p hp).1; omega, (hd p hp).2⟩)) ?_
   rintro e wE ⟨gq, cq, qs2, rfl, hs2, hgq, hrd2, hcap2, bE, _⟩
   have bDE : Below wD.heap.size wD wE := (Below.refl wD.heap.size wD).drew.trans bE
   have x1E := x1D.below bDE
   have hql : qs2.length = ps.length := by have := congrArg List.length hs2; simpa using this
   have hfz : fitsC nb fr bl Us.length ps = 0 := by rw [← hcode]; exact hc0
   have hps : ∀ q ∈ qs2, 0 ≤ q.at_ ∧ q.at_ < 524288 ∧ q.data.length = 512 := fun q hq => by
    have hm : q.say ∈ ps.map Pm.say := by rw [← hs2]; exact List.mem_map_of_mem hq
    obtain ⟨pp, hpm, he⟩ := List.mem_map.1 hm
    have h1 : pp.at_ = q.at_ := congrArg Prod.fst he
    have h2 : pp.data = q.data := congrArg Prod.snd he
    obtain ⟨z1, z2, z3, z4⟩ := putC_zero (fits_zero hfz pp hpm)
    have := x1.nb
    exact ⟨by omega, by omega, by rw [← h2]; exact z1⟩
   have hrdE : RdP (fun k => ((Z' k ∨ k = wb ∨ TB tl' td' Ls' k) ∨ X0 k) ∨ k = g ∨ (Value.slice ta Us.length tc).ownBlock = some k) wE (some ⟨gq, 0, none⟩) qs2 := hrd2.but (But.refl (fun _ => False) wE) (fun _ _ q => q.elim) _ (fun k _ q => by
    rcases q with (q | q) | q
    ·exact x1D.mu_lt (.inl q)
    ·exact x1D.x0 k q
    ·exact x1D.mu_lt (.inr q))
   have hra := refAppend_any x1E.lg x1E.nb x1E.fit x1E.lo hUs (some ⟨gq, 0, none⟩) cq qs2 hrdE (by omega) hps (by
    have : fitsC nb fr bl Us.length qs2 = fitsC nb fr bl Us.length ps := by unfold fitsC; rw [putsC_say hs2, diffs_say hs2]
    rw [this]; exact hfz)
   rw [hql] at hra
   refine ⟨gq, cq, rfl, x1E.wd.cell 3, Calls.mono hra ?_⟩
   rintro e wF ⟨rfl, ta', tc', vs', hLF, bF, hta⟩
   have x1F := x1E.logged hLF bF
   refine ⟨rfl, x1F.wd.cell 3, ?_⟩
   rw [hPO]
   have hbE : But W w wE := hbD.comp (But.of_below bDE (X := fun _ => False)) (fun _ _ q => q.elim)
   have hon2 : On d' s' nb fr bl lasted (imgB H) (plainT (Us ++ [qs2])) := by
    have e : plainT (Us ++ [qs2]) = plainT Us ++ [ps.map Pm.put] := by
     unfold plainT
     rw [List.map_append]
     simp only [List.map_cons, List.map_nil]
     rw [say_put qs2 ps hs2]
    rw [e]
    exact on0 hc0
   refine ⟨rfl, hbE.comp bF (fun k _ q => by rw [hW]; exact .inr q), _, Us ++ [qs2], ⟨Z', p, c, j, g, tried, tl', td', hb, hc, ta', tc', vs', Ls', n2, csC, d', s', x1F, hon2, rfl⟩, fun k hk q => ?_, .inl ⟨hfz, qs2, rfl, hs2⟩⟩
   rw [hW]
   rcases q with q | q | q
   ·exact .inl (x3 k hk q)
   ·exact .inr (.inl q)
   ·-- the transactions' list: in its old place, or in a new block
    have hkE : k < wE.heap.size := by have := hbE.size; omega
    rcases hta k q with r | r
    ·exact .inr (.inr r)
    ·omega
 have HCode := hid hcode
 clear h hOn hW hR hd hUl hUs hisb hTW hwW hTr0 hRd hPO hcode
 go_enter Tryz.func44, Tryz.ntmps44
 go_wp2_with fail
 refine wp_region_held_drew (S := fun w' => w'.cell? ⟨wb, 2, none⟩ = some (.pointer (some ⟨j, 0, none⟩))) (by kernel_rfl) k2 (fun hSS => ?_)
 refine tk 0 (some 7) (.move (.tmp 0)) 28 none hSS ?_
 refine tk 1 (some 8) (.nilCheck (.tmp 7)) 0 none hSS ?_
 refine tk 2 (some 9) (.fieldAddr 50 (.tmp 8) 2) 0 none hSS ?_
 refine tk 3 (some 10) (.load 44 (.tmp 9)) 44 none hSS ?_
 try simp only [Act.put, zA, zB, zC]
 refine tk 4 (some 11) (.move (.tmp 0)) 28 none hSS ?_
 refine tk 5 (some 12) (.nilCheck (.tmp 11)) 0 none hSS ?_
 refine tk 6 (some 13) (.fieldAddr 50 (.tmp 12) 9) 0 none hSS ?_
 refine tk 7 (some 14) (.move (.tmp 1)) 35 none hSS ?_
 try simp only [Act.put, zA, zB, zC]
 refine wpAnyH_ready (rs := [8]) (by kernel_rfl) (by simp) (AllReadyH.cons (o := ({ dst := some 15, op := Op.call { callee := Callee.value (Operand.func 102), args := #[Operand.tmp 13, Operand.tmp 14], argTypes := #[48, 35] }, type := 35, pos := _, after := _, guard := none } : Oper)) rfl (fun K9 hK9 => ?_) AllReadyH.nil)
 go_simp
 go_at_call 102
 refine Calls.mono HLe.out ?_
 rintro e wA hLA
 obtain ⟨lb, lc, rfl, a2, HApp⟩ := HAf.out e wA hLA
 have HA2 := hid HApp
 clear hLA HApp HAf HLe
 refine hK9.out _ _ a2 (fun hSS => ?_)
 clear hK9 K9
 try simp only [Act.put, zA, zB, zC]
 refine wpAnyH_ready (rs := [9]) (by kernel_rfl) (by simp) (AllReadyH.cons (o := ({ dst := some 16, op := Op.call { callee := Callee.value (Operand.func 17), args := #[Operand.tmp 10, Operand.tmp 15], argTypes := #[44, 35] }, type := 40, pos := _, after := _, guard := none } : Oper)) rfl (fun K9 hK9 => ?_) AllReadyH.nil)
 go_simp
 go_at_call 17
 refine Calls.mono HA2.out ?_
 rintro e wB ⟨rfl, b2, hb3⟩
 have HB3 := hid hb3
 clear hb3 HA2
 refine hK9.out _ _ b2 (fun hSS => ?_)
 clear hK9 K9
 try simp only [Act.put, zA, zB, zC]
 refine tk 10 (some 5) (.assign (.tmp 16)) 40 none hSS ?_
 try simp only [Act.put, zA, zB, zC]
 refine wpAnyH_done (by kernel_rfl) ?_ _
 have HN0 := hid (HNm.out)
 clear hSS k2 a2 b2
 go_wp2_with fail
 refine Calls.mono HB3.out ?_
 rintro e wC ⟨rfl, hC⟩
 obtain ⟨c3, hFt⟩ := HX.out wC hC
 have HFt := hid hFt
 clear hC hFt HX HB3
 go_wp2_with fail
 refine Calls.mono HFt.out ?_
 rintro e wD ⟨rfl, d3, hD1, hD2⟩
 have HD := hid (And.intro hD1 hD2)
 have HN1 := hid (HNm.out wD)
 clear hD1 hD2 HFt c3
 go_wp2_with fail
 refine Calls.mono HN1.out ?_
 rintro e w9 ⟨rfl, hw9⟩
 rw [hw9]
 clear hw9
 by_cases hc0 : code = 0
 ·have HCP := hid (HD.out.2 hc0)
  have HEf : Hid (∀ (e : Ending) (wE : World), (∃ gq cq, e = .returned (.slice (some ⟨gq, 0, none⟩) ps.length cq) ∧ wE.cell? ⟨wb, 3, none⟩ = some (.pointer (some ⟨g, 0, none⟩)) ∧ Calls Tryz.prog 106 #[.pointer (some ⟨g, 0, none⟩), .slice (some ⟨gq, 0, none⟩) ps.length cq] wE fun e wF => e = .returned (.int .i64 0) ∧ wF.cell? ⟨wb, 3, none⟩ = some (.pointer (some ⟨g, 0, none⟩)) ∧ PO (.returned (.bool true)) wF) → ∃ gq cq, e = .returned (.slice (some ⟨gq, 0, none⟩) ps.length cq) ∧ wE.cell? ⟨wb, 3, none⟩ = some (.pointer (some ⟨g, 0, none⟩)) ∧ Calls Tryz.prog 106 #[.pointer (some ⟨g, 0, none⟩), .slice (some ⟨gq, 0, none⟩) ps.length cq] wE fun e wF => e = .returned (.int .i64 0) ∧ wF.cell? ⟨wb, 3, none⟩ = some (.pointer (some ⟨g, 0, none⟩)) ∧ PO (.returned (.bool true)) wF) := fun _ _ q => q
  subst hc0
  clear hc24 HD HCode
  obtain ⟨N, hN2⟩ : ∃ N, N = ps.length := ⟨_, rfl⟩
  rw [← hN2] at HCP HEf ⊢
  clear hN2
  go_wp2_with fail
  refine Calls.mono HN1.out ?_
  rintro e w9 ⟨rfl, hw9⟩
  rw [hw9]
  clear hw9 HN1
  go_wp2_with fail
  refine wp_region_held_drew (S := fun w' => w'.cell? ⟨wb, 3, none⟩ = some (.pointer (some ⟨g, 0, none⟩))) (by kernel_rfl) d3 (fun hSS => ?_)
  refine tk 0 (some 58) (.move (.tmp 0)) 28 none hSS ?_
  try simp only [Act.put, zA, zB, zC]
  refine tk 1 (some 59) (.nilCheck (.tmp 58)) 0 none hSS ?_
  refine tk 2 (some 60) (.fieldAddr 50 (.tmp 59) 3) 0 none hSS ?_
  refine tk 3 (some 61) (.load 45 (.tmp 60)) 45 none hSS ?_
  refine tk 4 (some 62) (.move (.tmp 1)) 35 none hSS ?_
  try simp only [Act.put, zA, zB, zC]
  refine wpAnyH_ready (rs := [5]) (by kernel_rfl) (by simp) (AllReadyH.cons (o := ({ dst := some 63, op := Op.call { callee := Callee.value (Operand.func 105), args := #[Operand.tmp 62], argTypes := #[35] }, type := 35, pos := _, after := _, guard := none } : Oper)) rfl (fun K9 hK9 => ?_) AllReadyH.nil)
  go_simp
  go_at_call 105
  refine Calls.mono HCP.out ?_
  rintro e wE hE
  obtain ⟨gq, cq, rfl, e3, HE2⟩ := HEf.out e wE hE
  have HE3 := hid HE2
  clear hE HE2 HCP HEf
  refine hK9.out _ _ e3 (fun hSS => ?_)
  clear hK9 K9
  try simp only [Act.put, zA, zB, zC]
  refine wpAnyH_ready (rs := [6]) (by kernel_rfl) (by simp) (AllReadyH.cons (o := ({ dst := some 64, op := Op.call { callee := Callee.value (Operand.func 106), args := #[Operand.tmp 61, Operand.tmp 63], argTypes := #[45, 35] }, type := 3, pos := _, after := _, guard := none } : Oper)) rfl (fun K9 hK9 => ?_) AllReadyH.nil)
  go_simp
  go_at_call 106
  refine Calls.mono HE3.out ?_
  rintro e wF ⟨rfl, f3, hF⟩
  have HF := hid hF
  clear hF HE3
  refine hK9.out _ _ f3 (fun hSS => ?_)
  clear hK9 K9
  try simp only [Act.put, zA, zB, zC]
  refine wpAnyH_done (by kernel_rfl) ?_ _
  have HN3 := hid (HNm.out wF)
  clear hSS d3 e3 f3 HNm HN0
  go_wp2_with fail
  refine Calls.mono HN3.out ?_
  rintro e w9 ⟨rfl, hw9⟩
  rw [hw9]
  clear hw9 HN3
  go_wp2
  exact HF.out
 ·have FIN := hid (HD.out.1 hc0)
  clear HD HCode HNm HN0
  go_wp2_with fail
  refine Calls.mono HN1.out ?_
  rintro e w9 ⟨rfl, hw9⟩
  rw [hw9]
  clear hw9
  go_wp2_with fail
  refine Calls.mono HN1.out ?_
  rintro e w9 ⟨rfl, hw9⟩
  rw [hw9]
  clear hw9 HN1
  go_wp2
  exact FIN.out
open Go.RowKit
variable {X0 : Nat → Prop}
theorem WD.below {W : Nat → Prop} {w w' : World} {wb room nb fr bl K lasted : Nat} {H : List Int} {Us : List (List Pm)} (h : WD X0 W w wb room nb fr bl K lasted H Us) (hb : Below w.heap.size w w') : WD X0 W w' wb room nb fr bl K lasted H Us := by
 obtain ⟨Z, p, c, j, g, tried, tl, td, hb', hc, ta, tc, vs, Ls, n1, cs, d, s, h, hOn, hW⟩ := h
 exact ⟨Z, p, c, j, g, tried, tl, td, hb', hc, ta, tc, vs, Ls, n1, cs, d, s, h.below hb, hOn, hW⟩
theorem WD.lt {W : Nat → Prop} {w : World} {wb room nb fr bl K lasted : Nat} {H : List Int} {Us : List (List Pm)} (h : WD X0 W w wb room nb fr bl K lasted H Us) {k : Nat} (hk : W k) : k < w.heap.size := by
 obtain ⟨Z, p, c, j, g, tried, tl, td, hb', hc, ta, tc, vs, Ls, n1, cs, d, s, h, hOn, hW⟩ := h
 rw [hW] at hk
 exact h.mu_lt hk
theorem WD.wb_in {W : Nat → Prop} {w : World} {wb room nb fr bl K lasted : Nat} {H : List Int} {Us : List (List Pm)} (h : WD X0 W w wb room nb fr bl K lasted H Us) : W wb := by
 obtain ⟨Z, p, c, j, g, tried, tl, td, hb', hc, ta, tc, vs, Ls, n1, cs, d, s, h, hOn, hW⟩ := h
 rw [hW]
 exact .inl (.inr (.inl rfl))
theorem Wb.set5 {w : World} {wb p c : Nat} {jv : Value} {g : Nat} {rm lasted : Int} {off trying : Bool} {tried tl td : Value} (h : Wb w wb p c jv g rm lasted off trying tried tl td) (n : Int) : Wb (w.setCell ⟨wb, 5, none⟩ (.int .i64 n)) wb p c jv g rm n off trying tried tl td := by
 refine ⟨?_⟩
 have h1 := h.blk
 simp only [World.setCell, Array.getElem?_modify]
 rw [h1]
 simp
theorem Wx.turn {Z Z' : Nat → Prop} {w w' : World} {wb p c j g room nb fr bl K lasted : Nat} {tried tl td : Value} {hb hc : Nat} {H : List Int} {ta : Option Addr} {tc : Nat} {vs : List Value} {Us : List (List Pm)} {Ls : List Ln} {n1 : Nat} {cs : List Value} {d d' : Pd} {s s' : Js} (h : Wx X0 Z w wb p c j g room nb fr bl K lasted tried tl td hb hc H ta tc vs Us Ls n1 cs d s) (hJ : Jq Z' w' j c p room nb K fr bl d' s') (hzb : ∀ k, Z' k → k < w'.heap.size) (hGr : Gr Z Z' w) (hbt : But Z w w') (hfu : d'.fu = -1) : Wx X0 Z' w' wb p c j g room nb fr bl K lasted tried tl td hb hc H ta tc vs Us Ls n1 cs d' s' := by
 have hwl := h.wd.lt
 exact ⟨h.wd.keep (hbt.block wb hwl h.zw), h.lg.butX (X := fun k => Z k ∨ k = wb ∨ TB tl td Ls k) hbt (fun _ _ q => .inl q) (fun k => Z' k ∨ k = wb ∨ TB tl td Ls k) (fun k hk q => q.elim (fun q => .inl (hGr k hk q)) .inr), hJ, hfu, h.tr.but hbt (fun k _ q r => h.zt k (.inr q) r), owns_keep h.ls (fun k e => hbt.block k (World.ownsRow.lt h.ls k e).2 (h.zt k (.inl e))), h.n1, h.nl, fun q => h.zw (hGr wb hwl q), fun k q r => h.zt k q (hGr k (h.tlt q) r), h.tw, h.lt, hzb, h.lo, h.fit, h.r1, h.r2, fun k q => Nat.lt_of_lt_of_le (h.x0 k q) (by first | exact hbt.size | exact bt.size | exact Nat.le_refl _ | omega)⟩
theorem Wx.lasts {Z : Nat → Prop} {w : World} {wb p c j g room nb fr bl K lasted : Nat} {tried tl td : Value} {hb hc : Nat} {H : List Int} {ta : Option Addr} {tc : Nat} {vs : List Value} {Us : List (List Pm)} {Ls : List Ln} {n1 : Nat} {cs : List Value} {d : Pd} {s : Js} (h : Wx X0 Z w wb p c j g room nb fr bl K lasted tried tl td hb hc H ta tc vs Us Ls n1 cs d s) (n : Nat) : Wx X0 Z (w.setCell ⟨wb, 5, none⟩ (.int .i64 (n : Int))) wb p c j g room nb fr bl K n tried tl td hb hc H ta tc vs Us Ls n1 cs d s := by
 have hbt : But (fun k => k = wb) w (w.setCell ⟨wb, 5, none⟩ (.int .i64 (n : Int))) := (But.refl (fun k => k = wb) w).setCell rfl _
 exact ⟨h.wd.set5 _, h.lg.butX (X := fun k => Z k ∨ k = wb ∨ TB tl td Ls k) hbt (fun _ _ q => .inr (.inl q)) (fun k => Z k ∨ k = wb ∨ TB tl td Ls k) (fun _ _ q => q), h.jq.but hbt (fun k _ q r => h.zw (by rw [← r]; exact q)), h.fu, h.tr.but hbt (fun k _ q r => h.tw (by rw [← r]; exact .inr q)), owns_keep h.ls (fun k e => hbt.block k (World.ownsRow.lt h.ls k e).2 (fun r => h.tw (by rw [← r]; exact .inl e))), h.n1, h.nl, h.zw, h.zt, h.tw, h.lt, fun k q => Nat.lt_of_lt_of_le (h.zb k q) hbt.size, h.lo, h.fit, h.r1, h.r2, fun k q => Nat.lt_of_lt_of_le (h.x0 k q) (by first | exact hbt.size | exact bt.size | exact Nat.le_refl _ | omega)⟩
def FluW (X0 W : Nat → Prop) (w : World) (wb room nb fr bl K : Nat) (H : List Int) (Us : List (List Pm)) (e : Ending) (w' : World) : Prop :=
 e = .returned (.bool true) ∧ But W w w' ∧ ∃ W', WD X0 W' w' wb room nb fr bl K Us.length H Us ∧ (∀ k, k < w.heap.size → W' k → W k)
set_option maxRecDepth 100000 in
set_option maxHeartbeats 4000000 in
theorem lasts_any {Z : Nat → Prop} {w : World} {wb p c j g room nb fr bl K lasted : Nat} {tried tl td : Value} {hb hc : Nat} {H : List Int} {ta : Option Addr} {tc : Nat} {vs : List Value} {Us : List (List Pm)} {Ls : List Ln} {n1 : Nat} {cs : List Value} {d : Pd} {s : Js} (h : Wx X0 Z w wb p c j g room nb fr bl K lasted tried tl td hb hc H ta tc vs Us Ls n1 cs d s) : Calls Tryz.prog 49 #[.pointer (some ⟨wb, 0, none⟩), .int .i64 0] w fun e w' => e = .returned (.bool true) ∧ w' = w.setCell ⟨wb, 5, none⟩ (.int .i64 (Us.length : Int)) := by
 have k3 : w.cell? ⟨wb, 3, none⟩ = some (.pointer (some ⟨g, 0, none⟩)) := h.wd.cell 3
 have k5 : w.cell? ⟨wb, 5, none⟩ = some (.int .i64 (lasted : Int)) := h.wd.cell 5
 have f5 := h.wd.frozen 5
 have c3 := h.lg.lg.c3
 have HN := hid (num_any 0)
 obtain ⟨n, hn⟩ : ∃ n, n = Us.length := ⟨_, rfl⟩
 rw [← hn] at c3 ⊢
 clear h hn
 go_enter Tryz.func49, Tryz.ntmps49
 go_wp2_with fail
 refine Calls.mono (HN.out _) ?_
 rintro e w9 ⟨rfl, hw9⟩
 rw [hw9]
 clear hw9
 go_wp2_with fail
 refine Calls.mono (HN.out _) ?_
 rintro e w9 ⟨rfl, hw9⟩
 rw [hw9]
 clear hw9
 go_wp2
 go_ret
 exact ⟨rfl, rfl⟩
set_option maxRecDepth 100000 in
set_option maxHeartbeats 4000000 in
theorem act_append {W : Nat → Prop} {w : World} {wb room nb fr bl K lasted : Nat} {H : List Int} {Us : List (List Pm)} (hWD : WD X0 W w wb room nb fr bl K lasted H Us) (at_ keep again : Int) (a0 : Option Addr) (cp : Nat) (ps : List Pm) (hR : RdP W w a0 ps) (hN : ps.length ≤ 536870912) (hd : ∀ p ∈ ps, p.data.length ≤ 16777216 ∧ (p.ad = none → p.cap = 0)) :
  Calls Tryz.prog 11 #[.pointer (some ⟨wb, 0, none⟩), .agg #[.int .i64 1, .int .i64 at_, .slice a0 ps.length cp, .int .u64 keep, .int .i64 (-1), .int .i64 again]] w (AppW X0 W w wb room nb fr bl K lasted H Us ps) := by
 obtain ⟨PO, hPO⟩ : ∃ PO : Ending → World → Prop, PO = AppW X0 W w wb room nb fr bl K lasted H Us ps := ⟨_, rfl⟩
 rw [← hPO]
 obtain ⟨N, hNe⟩ : ∃ N, N = ps.length := ⟨_, rfl⟩
 obtain ⟨w1, hw1⟩ : ∃ w1, w1 = w.alloc (.cells #[.int .i64 1, .int .i64 at_, .slice a0 N cp, .int .u64 keep, .int .i64 (-1), .int .i64 again] 38) := ⟨_, rfl⟩
 have b1 : Below w.heap.size w w1 := by rw [hw1]; exact (Below.refl _ _).alloc (Nat.le_refl _) _
 have HA : Hid (Calls Tryz.prog 44 #[.pointer (some ⟨wb, 0, none⟩), .slice a0 N cp] w1 fun e w2 => ∃ b, e = .returned (.bool b) ∧ PO (.returned (.bool b)) w2) := by
  rw [hNe]
  refine Calls.mono (append_any (hWD.below b1) a0 cp ps (hR.low b1) hN hd) ?_
  rintro e w2 ⟨rfl, q1, W', Us', q2, q3, q4⟩
  refine ⟨true, rfl, ?_⟩
  rw [hPO]
  exact ⟨rfl, (But.of_below b1 (X := W)).comp q1 (fun _ _ q => q), W', Us', q2, fun k hk q => q3 k (Nat.lt_of_lt_of_le hk b1.size) q, q4⟩
 have HW1 := hid hw1
 rw [← hNe]
 clear hWD hR hN hd hPO hNe hw1 b1
 go_enter Tryz.func11, Tryz.ntmps11
 go_wp2_with fail
 rw [← HW1.out]
 refine Calls.mono HA.out ?_
 rintro e w2 ⟨b, rfl, hP⟩
 have FIN := hid hP
 clear hP HA
 go_wp2
 exact FIN.out
set_option maxRecDepth 100000 in
set_option maxHeartbeats 4000000 in
theorem act_flush {W : Nat → Prop} {w : World} {wb room nb fr bl K lasted : Nat} {H : List Int} {Us : List (List Pm)} (hWD : WD X0 W w wb room nb fr bl K lasted H Us) (at_ keep again : Int) (pv : Value) :
  Calls Tryz.prog 11 #[.pointer (some ⟨wb, 0, none⟩), .agg #[.int .i64 3, .int .i64 at_, pv, .int .u64 keep, .int .i64 (-1), .int .i64 again]] w (FluW X0 W w wb room nb fr bl K H Us) := by
 obtain ⟨PO, hPO⟩ : ∃ PO : Ending → World → Prop, PO = FluW X0 W w wb room nb fr bl K H Us := ⟨_, rfl⟩
 rw [← hPO]
 obtain ⟨w1, hw1⟩ : ∃ w1, w1 = w.alloc (.cells #[.int .i64 3, .int .i64 at_, pv, .int .u64 keep, .int .i64 (-1), .int .i64 again] 38) := ⟨_, rfl⟩
 have b1 : Below w.heap.size w w1 := by rw [hw1]; exact (Below.refl _ _).alloc (Nat.le_refl _) _
 have hWD1 := hWD.below b1
 obtain ⟨Z, p, c, j, g, tried, tl, td, hb, hc, ta, tc, vs, Ls, n1, cs, d, s, h, hOn, hW⟩ := hWD1
 have k2 : w1.cell? ⟨wb, 2, none⟩ = some (.pointer (some ⟨j, 0, none⟩)) := h.wd.cell 2
 have k2' : (w.alloc (.cells #[.int .i64 3, .int .i64 at_, pv, .int .u64 keep, .int .i64 (-1), .int .i64 again] 38)).cell? ⟨wb, 2, none⟩ = some (.pointer (some ⟨j, 0, none⟩)) := by rw [← hw1]; exact k2
 have hpl := hOn.puts h.lo h.fit h.nb
 have HF : Hid (Calls Tryz.prog 18 #[.pointer (some ⟨j, 0, none⟩)] w1 fun e w2 => e = .returned (.int .i64 0) ∧ Calls Tryz.prog 49 #[.pointer (some ⟨wb, 0, none⟩), .int .i64 0] w2 fun e w3 => ∃ b, e = .returned (.bool b) ∧ PO (.returned (.bool b)) w3) := by
  have hnb9 := h.nb
  refine Calls.mono (Flush_on h.jq hOn.on (by omega)) ?_
  rintro e w2 ⟨rfl, ⟨Z', s', q1, q2, q3⟩, q4⟩
  obtain ⟨f1, _, f3⟩ := Pd.runs_free hOn.on h.fu [.fl]
  rw [f1]
  have hq := q2 f1
  rw [hq] at q1
  have x2 := h.turn q1.cut (fun k q => q.2) (fun k hk q => q3 k hk q.1) q4 f3
  refine ⟨rfl, Calls.mono (lasts_any x2) ?_⟩
  rintro e w3 ⟨rfl, rfl⟩
  refine ⟨true, rfl, ?_⟩
  rw [hPO]
  have hon := (hOn.flush h.jq.fits.1 h.lo h.fit h.nb).1 f1
  have hUl : (plainT Us).length = Us.length := by simp [plainT]
  rw [hUl] at hon
  refine ⟨rfl, ?_, _, ⟨_, p, c, j, g, tried, tl, td, hb, hc, ta, tc, vs, Ls, n1, cs, _, s, x2.lasts Us.length, hon, rfl⟩, fun k hk q => ?_⟩
  ·have c1 : But W w w2 := (But.of_below b1 (X := W)).comp q4 (fun k _ q => by rw [hW]; exact .inl (.inl q))
   exact c1.setCell (by rw [hW]; exact .inl (.inr (.inl rfl))) _
  ·rw [hW]
   rcases q with (q | q) | q
   ·exact .inl (.inl (q3 k (Nat.lt_of_lt_of_le hk b1.size) q.1))
   ·exact .inl (.inr q)
   ·exact .inr q
 have HW1 := hid hw1
 clear hWD h hOn hW hPO hw1 b1 hpl
 go_enter Tryz.func11, Tryz.ntmps11
 go_wp2_with fail
 rw [← HW1.out]
 refine Calls.mono HF.out ?_
 rintro e w2 ⟨rfl, hL⟩
 have HL := hid hL
 clear hL HF
 go_wp2_with fail
 refine Calls.mono HL.out ?_
 rintro e w3 ⟨b, rfl, hP⟩
 have FIN := hid hP
 clear hP HL
 go_wp2
 exact FIN.out
end Go.Proofs.YtldlejpacgphmabGreat
