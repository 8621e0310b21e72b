import Derived.Test.YtldlejpacgphmaaGreatG39
namespace Go.Proofs.YtldlejpacgphmaaGreat
open Go.RowKit
theorem putsC_say {nb fr bl : Nat} {ps qs : List Pm} (h : qs.map Pm.say = ps.map Pm.say) : putsC nb fr bl qs = putsC nb fr bl ps := by
 induction ps generalizing qs with
 | nil =>
  cases qs with
  | nil => rfl
  | cons a b => simp at h
 | cons p ps ih =>
  cases qs with
  | nil => simp at h
  | cons q qs =>
   simp only [List.map_cons, List.cons.injEq] at h
   have h1 : q.at_ = p.at_ := congrArg Prod.fst h.1
   have h2 : q.data = p.data := congrArg Prod.snd h.1
   unfold putsC
   rw [h1, h2, ih h.2]
theorem diffs_say {ps qs : List Pm} (h : qs.map Pm.say = ps.map Pm.say) : diffs qs = diffs ps := by
 have hl : qs.length = ps.length := by have := congrArg List.length h; simpa using this
 have ha : qs.map Pm.at_ = ps.map Pm.at_ := by
  have e : ∀ l : List Pm, l.map Pm.at_ = (l.map Pm.say).map Prod.fst := fun l => by rw [List.map_map]; rfl
  rw [e, e, h]
 have hat : ∀ i, (qs.getD i ⟨0, none, 0, []⟩).at_ = (ps.getD i ⟨0, none, 0, []⟩).at_ := fun i => by
  have e := congrArg (fun l => l[i]?) ha
  simp only [List.getElem?_map] at e
  rw [List.getD_eq_getElem?_getD, List.getD_eq_getElem?_getD]
  cases h1 : qs[i]? with
  | none =>
   rw [h1] at e
   cases h2 : ps[i]? with
   | none => rfl
   | some b => rw [h2] at e; cases e
  | some a =>
   rw [h1] at e
   cases h2 : ps[i]? with
   | none => rw [h2] at e; cases e
   | some b =>
    rw [h2] at e
    simpa using e
 have hall : ∀ i (x : Int), ((qs.take i).all fun q => decide (q.at_ ≠ x)) = ((ps.take i).all fun q => decide (q.at_ ≠ x)) := fun i x => by
  have e : ∀ l : List Pm, (l.all fun q => decide (q.at_ ≠ x)) = ((l.map Pm.at_).all fun a => decide (a ≠ x)) := fun l => by rw [List.all_map]; rfl
  rw [e, e, List.map_take, List.map_take, ha]
 unfold diffs
 rw [hl]
 congr 1
 refine List.filter_congr fun i _ => ?_
 rw [hall, hat]
theorem appC_on {nb fr bl : Nat} {d : Pd} {s : Js} {ps qs : List Pm} (hon : d.off = false) (h : qs.map Pm.say = ps.map Pm.say) : appC nb fr bl d s qs = fitsC nb fr bl s.seq ps := by
 unfold appC fitsC
 rw [hon, if_neg (by decide), putsC_say h, standP_count, diffs_say h]
def TB (tl td : Value) (Ls : List Ln) (k : Nat) : Prop := tl.ownBlock = some k ∨ TrB td Ls k
structure Wx (Z : Nat → Prop) (w : World) (wb p c j g room nb fr bl K : Nat) (lasted : Nat) (tried tl td : Value) (hb hc : Nat) (H : List Int) (ta : Option Addr) (tc : Nat) (vs : List Value) (Us : List (List Pm)) (Ls : List Ln) (n1 : Nat) (cs : List Value) (d : Pd) (s : Js) : Prop where
 wd : Wb w wb p c (.pointer (some ⟨j, 0, none⟩)) g (room : Int) (lasted : Int) false false tried tl td
 lg : LgW (fun k => Z k ∨ k = wb ∨ TB tl td Ls k) w g hb hc nb fr bl H ta tc vs Us
 jq : Jq Z w j c p room nb K fr bl d s
 fu : d.fu = -1
 tr : Tr w td Ls []
 ls : w.ownsRow 0 68 2 tl n1 cs
 n1 : n1 ≤ 2147483648
 nl : Ls.length ≤ 1073741823
 zw : ¬ Z wb
 zt : ∀ k, TB tl td Ls k → ¬ Z k
 tw : ¬ TB tl td Ls wb
 lt : ∀ k, tl.ownBlock = some k → ¬ TrB td Ls k
 zb : ∀ k, Z k → k < w.heap.size
 lo : 16 ≤ bl
 fit : fr + bl ≤ nb
 r1 : 1 ≤ room
 r2 : room ≤ 4096
theorem Wx.nb {Z : Nat → Prop} {w : World} {wb p c j g room nb fr bl K lasted : Nat} {tried tl td : Value} {hb hc : Nat} {H : List Int} {ta : Option Addr} {tc : Nat} {vs : List Value} {Us : List (List Pm)} {Ls : List Ln} {n1 : Nat} {cs : List Value} {d : Pd} {s : Js} (h : Wx Z w wb p c j g room nb fr bl K lasted tried tl td hb hc H ta tc vs Us Ls n1 cs d s) : nb ≤ 524288 := h.jq.fits.2.2
theorem Wx.tlt {Z : Nat → Prop} {w : World} {wb p c j g room nb fr bl K lasted : Nat} {tried tl td : Value} {hb hc : Nat} {H : List Int} {ta : Option Addr} {tc : Nat} {vs : List Value} {Us : List (List Pm)} {Ls : List Ln} {n1 : Nat} {cs : List Value} {d : Pd} {s : Js} (h : Wx Z w wb p c j g room nb fr bl K lasted tried tl td hb hc H ta tc vs Us Ls n1 cs d s) {k : Nat} (hk : TB tl td Ls k) : k < w.heap.size := by
 rcases hk with hk | hk
 ·exact (World.ownsRow.lt h.ls k hk).2
 ·exact h.tr.lt hk
theorem On.us {d : Pd} {s : Js} {nb fr bl lo : Nat} {home : Nat → List Int} {Us : List (List Pm)} (h : On d s nb fr bl lo home (plainT Us)) (hlo : 16 ≤ bl) (hfit : fr + bl ≤ nb) (hnb : nb ≤ 524288) : s.seq = Us.length ∧ Us.length ≤ 1099511627776 := by
 have h1 := h.sq
 have h2 := (h.jn hlo hfit hnb).seq
 have h3 : (plainT Us).length = Us.length := by simp [plainT]
 exact ⟨by omega, by omega⟩
theorem Wx.below {Z : Nat → Prop} {w w' : World} {wb p c j g room nb fr bl K lasted : Nat} {tried tl td : Value} {hb hc : Nat} {H : List Int} {ta : Option Addr} {tc : Nat} {vs : List Value} {Us : List (List Pm)} {Ls : List Ln} {n1 : Nat} {cs : List Value} {d : Pd} {s : Js} (h : Wx Z w wb p c j g room nb fr bl K lasted tried tl td hb hc H ta tc vs Us Ls n1 cs d s) (hb' : Below w.heap.size w w') : Wx Z w' wb p c j g room nb fr bl K lasted tried tl td hb hc H ta tc vs Us Ls n1 cs d s where
 wd := h.wd.keep (hb'.block wb h.wd.lt)
 lg := h.lg.below hb' _ (fun _ _ q => q)
 jq := h.jq.below hb'
 fu := h.fu
 tr := h.tr.keep (fun k _ hk => hb'.block k hk)
 ls := owns_below h.ls hb'
 n1 := h.n1
 nl := h.nl
 zw := h.zw
 zt := h.zt
 tw := h.tw
 lt := h.lt
 zb := fun k q => Nat.lt_of_lt_of_le (h.zb k q) hb'.size
 lo := h.lo
 fit := h.fit
 r1 := h.r1
 r2 := h.r2
theorem RdP.low {X : Nat → Prop} {w w' : World} {a : Option Addr} {ps : List Pm} (h : RdP X w a ps) (hb : Below w.heap.size w w') : RdP X w' a ps := h.but (But.of_below hb (X := fun _ => False)) (fun _ _ q => q.elim) X (fun _ _ q => q)
theorem lent_rd {Z : Nat → Prop} {w : World} {td : Value} {Ls : List Ln} {ps qs : List Pm} {lb n1 lc : Nat} {cs : List Value} (hT : Tr w td Ls (ps.map Pm.data)) (hLP : LentP Ls ps qs) (hrow : w.ownsRow 0 68 2 (.slice (some ⟨lb, 0, none⟩) n1 lc) n1 ((pmCells qs ++ bhd (ps.length + 70)) ++ cs)) (hisb : ∀ p ∈ ps, Pl.isB p.data) (hZ : ∀ k, TrB td Ls k → ¬ Z k) (hl : ¬ Z lb) : RdP Z w (some ⟨lb, 0, none⟩) qs := by
 refine ⟨fun q hq => ?_, .inr ⟨lb, 0, rfl, (World.ownsRow.lt hrow lb rfl).2, hl, fun t q hq => ?_⟩⟩
 ·obtain ⟨i, hi⟩ := List.mem_iff_getElem?.1 hq
  obtain ⟨L, G, h1, h2, h3⟩ := hLP.2 i q hi
  have e := congrArg (fun l => l[i]?) hLP.1
  simp only [List.getElem?_map, hi, Option.map_some] at e
  cases hp : ps[i]? with
  | none => rw [hp] at e; cases e
  | some pp =>
   rw [hp] at e
   simp only [Option.map_some, Option.some.injEq] at e
   have hda : q.data = pp.data := congrArg Prod.snd e
   obtain ⟨L', G', k1, k2⟩ := hT.lnt i pp.data (by rw [List.getElem?_map, hp]; rfl)
   rw [h1] at k1
   simp only [Option.some.injEq, Prod.mk.injEq] at k1
   obtain ⟨rfl, rfl⟩ := k1
   have hrd := k2.rd (hisb pp (List.mem_of_getElem? hp))
   obtain ⟨a1, a2, a3⟩ := hrd
   rw [hda, h2]
   refine ⟨rfl, a2, ?_⟩
   rcases a3 with a3 | ⟨b, o, a4, a5, a6⟩
   ·exact .inl a3
   ·simp only [Option.some.injEq, Addr.mk.injEq] at a4
    obtain ⟨rfl, rfl, _⟩ := a4
    exact .inr ⟨G, 0, rfl, a5, hZ G (.inr ⟨_, List.mem_of_getElem? h1, .inr rfl⟩), a6⟩
 ·have hc := World.ownsRow.cells hrow (g := lb) rfl
  have hil := (List.getElem?_eq_some_iff.1 hq).1
  have hpl := pmCells_length qs
  obtain ⟨x0, x1⟩ := pmCells_get qs t q hq
  have y0 := hc (t * 2) _ (by rw [List.append_assoc, List.getElem?_append_left (by omega)]; exact x0)
  have y1 := hc (t * 2 + 1) _ (by rw [List.append_assoc, List.getElem?_append_left (by omega)]; exact x1)
  rw [Addr.add_lit] at y0 y1
  exact ⟨y0, y1⟩
end Go.Proofs.YtldlejpacgphmaaGreat
namespace Go.Proofs.YtldlejpacgphmaaGreat
open Go.RowKit
theorem AppendU {Z : Nat → Prop} {wA : World} {j c p room nb K fr bl : Nat} {d : Pd} {s : Js} {lasted : Nat} {home : Nat → List Int} {Ts : List Tn} (hJ : Jq Z wA j c p room nb K fr bl d s) (hfu : d.fu = -1) (hOn : On d s nb fr bl lasted home Ts) (hlo : 16 ≤ bl) (hfit : fr + bl ≤ nb) (a0 : Option Addr) (lc : Nat) {ps qs : List Pm} (hR : RdP Z wA a0 qs) (hsay : qs.map Pm.say = ps.map Pm.say) (hN : qs.length ≤ 1073741823) :
  Calls Tryz.prog 73 #[.pointer (some ⟨j, 0, none⟩), .slice a0 qs.length lc] wA fun e wB => e = .returned (.int .i64 (fitsC nb fr bl Ts.length ps)) ∧ ∃ Z' d' s', Jq Z' wB j c p room nb K fr bl d' s' ∧ (∀ k, Z' k → k < wB.heap.size) ∧ Gr Z Z' wA ∧ But Z wA wB ∧ d'.fu = -1 ∧ (fitsC nb fr bl Ts.length ps = 0 → On d' s' nb fr bl lasted home (Ts ++ [ps.map Pm.put])) ∧ (fitsC nb fr bl Ts.length ps ≠ 0 → On d' s' nb fr bl lasted home Ts) := by
 have hnb := hJ.fits.2.2
 have hpl := hOn.puts hlo hfit hnb
 have hc : appC nb fr bl d s qs = fitsC nb fr bl Ts.length ps := by rw [appC_on hOn.on hsay, hOn.sq]
 refine Calls.mono (Append_on hJ (hOn.jn hlo hfit hnb) hOn.on a0 lc qs hR hN (by omega)) ?_
 rintro e wB ⟨h1, h2⟩
 rw [hc] at h1 h2
 by_cases hz : fitsC nb fr bl Ts.length ps = 0
 ·obtain ⟨rfl, ⟨Z', s', q1, q2, q3⟩, q4⟩ := h1 hz
  obtain ⟨f1, _, f3⟩ := Pd.runs_free hOn.on hfu (wlCmds nb fr bl s (appRecs qs))
  rw [f1, hz]
  have hq := q2 f1
  subst hq
  refine ⟨rfl, _, _, _, q1.cut, fun k q => q.2, fun k hk q => q3 k hk q.1, q4, f3, fun _ => ?_, fun q => absurd rfl q⟩
  have := (hOn.append hJ.fits.1 hlo hfit hnb (ps := qs) (fun p hp => (hR.1 p hp).2.1) (by rw [hc]; exact hz)).1 f1
  rw [say_put qs ps hsay] at this
  exact this
 ·obtain ⟨rfl, b⟩ := h2 hz
  exact ⟨rfl, _, d, s, (hJ.cut).below b, fun k q => Nat.lt_of_lt_of_le q.2 b.size, fun k hk q => q.1, But.of_below b, hfu, fun q => absurd q hz, fun _ => hOn⟩
theorem Wx.after {Z : Nat → Prop} {w : World} {wb p c j g room nb fr bl K lasted : Nat} {tried tl td : Value} {hb hc : Nat} {H : List Int} {ta : Option Addr} {tc : Nat} {vs : List Value} {Us : List (List Pm)} {Ls : List Ln} {n1 : Nat} {cs : List Value} {d : Pd} {s : Js} (h : Wx Z w wb p c j g room nb fr bl K lasted tried tl td hb hc H ta tc vs Us Ls n1 cs d s) {w0 wA wB wC : World} (b0 : Below w.heap.size w w0) {lb n2 lc : Nat} {td' : Value} {Ls' : List Ln} {Zs : List (List Int)} {cs' : List Value} {Z' : Nat → Prop} {d' : Pd} {s' : Js}
  (hbA : But (fun k => k = wb ∨ TrB td Ls k ∨ tl.ownBlock = some k) w0 wA) (hgr : ∀ k, k < w0.heap.size → TrB td' Ls' k → TrB td Ls k) (hlb : tl.ownBlock = some lb ∨ w0.heap.size ≤ lb) (hnT : ¬ TrB td' Ls' lb) (hn2 : n2 ≤ 2147483648) (hnl : Ls'.length ≤ 1073741823) (htA : Tr wA td' Ls' Zs) (hllA : lb < wA.heap.size)
  (hJ : Jq Z' wB j c p room nb K fr bl d' s') (hzb : ∀ k, Z' k → k < wB.heap.size) (hGr : Gr Z Z' wA) (hbB : But Z wA wB) (hfu : d'.fu = -1)
  (hwdC : Wb wC wb p c (.pointer (some ⟨j, 0, none⟩)) g (room : Int) (lasted : Int) false false tried (.slice (some ⟨lb, 0, none⟩) n2 lc) td') (htC : Tr wC td' Ls' []) (hlC : wC.ownsRow 0 68 2 (.slice (some ⟨lb, 0, none⟩) n2 lc) n2 cs') (hbC : But (fun k => k = lb ∨ TrB td' Ls' k) wB wC) :
  Wx Z' wC wb p c j g room nb fr bl K lasted tried (.slice (some ⟨lb, 0, none⟩) n2 lc) td' hb hc H ta tc vs Us Ls' n2 cs' d' s' ∧ But (fun k => Z k ∨ k = wb ∨ TB tl td Ls k) w wC ∧ (∀ k, k < w.heap.size → (Z' k ∨ k = wb ∨ TB (.slice (some ⟨lb, 0, none⟩) n2 lc) td' Ls' k) → (Z k ∨ k = wb ∨ TB tl td Ls k)) := by
 have s0 := b0.size
 have sA := hbA.size
 have sB := hbB.size
 have hwl := h.wd.lt
 have hlbk : ∀ k, (Value.slice (some ⟨lb, 0, none⟩) n2 lc).ownBlock = some k → k = lb := fun k e => by
  have e2 : lb = k := by injection e
  exact e2.symm
 have hTw : ∀ k, k < w.heap.size → TB (.slice (some ⟨lb, 0, none⟩) n2 lc) td' Ls' k → TB tl td Ls k := fun k hk q => by
  rcases q with q | q
  ·have := hlbk k q
   subst this
   rcases hlb with r | r
   ·exact .inl r
   ·omega
  ·exact .inr (hgr k (by omega) q)
 have hTA : ∀ k, TB (.slice (some ⟨lb, 0, none⟩) n2 lc) td' Ls' k → k < wA.heap.size := fun k q => by
  rcases q with q | q
  ·rw [hlbk k q]; exact hllA
  ·exact htA.lt q
 have hZ : ∀ k, k < wA.heap.size → Z' k → Z k ∧ k < w.heap.size := fun k hk q => ⟨hGr k hk q, h.zb k (hGr k hk q)⟩
 have hzt : ∀ k, TB (.slice (some ⟨lb, 0, none⟩) n2 lc) td' Ls' k → ¬ Z' k := fun k q r => by
  obtain ⟨r1, r2⟩ := hZ k (hTA k q) r
  exact h.zt k (hTw k r2 q) r1
 have bt : But (fun k => Z k ∨ k = wb ∨ TB tl td Ls k) w wC := by
  have c1 : But (fun k => Z k ∨ k = wb ∨ TB tl td Ls k) w wA := (But.of_below b0 (X := fun k => Z k ∨ k = wb ∨ TB tl td Ls k)).comp hbA (fun k _ q => by
   rcases q with q | q | q
   ·exact .inr (.inl q)
   ·exact .inr (.inr (.inr q))
   ·exact .inr (.inr (.inl q)))
  have c2 := c1.comp hbB (fun k _ q => .inl q)
  exact c2.comp hbC (fun k hk q => .inr (.inr (hTw k hk (by
   rcases q with q | q
   ·rw [q]; exact .inl rfl
   ·exact .inr q))))
 have hgrw : ∀ k, k < w.heap.size → (Z' k ∨ k = wb ∨ TB (.slice (some ⟨lb, 0, none⟩) n2 lc) td' Ls' k) → (Z k ∨ k = wb ∨ TB tl td Ls k) := fun k hk q => by
  rcases q with q | q | q
  ·exact .inl (hZ k (by omega) q).1
  ·exact .inr (.inl q)
  ·exact .inr (.inr (hTw k hk q))
 refine ⟨⟨hwdC, h.lg.but bt (fun _ _ q => q) _ hgrw, ?_, hfu, htC, hlC, hn2, hnl, ?_, hzt, ?_, ?_, ?_, h.lo, h.fit, h.r1, h.r2⟩, bt, hgrw⟩
 ·exact hJ.but hbC (fun k _ q r => hzt k (by
   rcases r with r | r
   ·rw [r]; exact .inl rfl
   ·exact .inr r) q)
 ·intro q
  exact h.zw (hZ wb (by omega) q).1
 ·exact fun q => h.tw (hTw wb hwl q)
 ·intro k e
  rw [hlbk k e]
  exact hnT
 ·exact fun k q => Nat.lt_of_lt_of_le (hzb k q) hbC.size
end Go.Proofs.YtldlejpacgphmaaGreat
