import Derived.Test.YtldlejpacgphmaaGreatG46
import Derived.Test.YtldlejpacgphmaaGreatG48
import Derived.Test.YtldlejpacgphmaaGreatG17
import Derived.ProofKit
import Derived.OpenShut
import Derived.SizedLaws
import Derived.Deep.SlicePairs
namespace Go.Proofs.YtldlejpacgphmaaGreat
open Go.RowKit Go.Deep
theorem begun_any {w : World} (a : Option Addr) (L hcap : Nat) (H : List Int) (frI blI rI : Int) (hL : L ≤ 1073741823) (hnil : a = none → hcap = 0) (hR : Rd w.heap.size w a L H) :
  Calls Tryz.prog 10 #[.agg #[.slice a L hcap, .int .i64 frI, .int .i64 blI, .int .i64 rI]] w fun e w' => Below w.heap.size w w' ∧ (e = .returned (.tuple #[.pointer none, .bool true]) ∨ ∃ wb room nb fr bl W, e = .returned (.tuple #[.pointer (some ⟨wb, 0, none⟩), .bool true]) ∧ WD W w' wb room nb fr bl 0 0 H [] ∧ ∀ k, W k → w.heap.size ≤ k) := by
 by_cases hbad : openBad L
 ·refine Calls.mono (begun_short a L hcap H frI blI rI (by omega) hbad hnil hR) ?_
  rintro e w' ⟨rfl, b⟩
  exact ⟨b, .inl rfl⟩
 ·obtain ⟨nb, hnbe, n1, hnb⟩ : ∃ nb, L = 512 * nb ∧ 1 ≤ nb ∧ nb ≤ 524288 := by
   unfold openBad at hbad
   exact ⟨L / 512, by omega, by omega, by omega⟩
  subst hnbe
  by_cases hz : placeC nb frI blI = 0
  ·obtain ⟨f, b, rfl, rfl, hlo, hfit⟩ := placeC_zero hz
   refine Calls.mono (begun_ok a hcap H nb f b rI n1 hnb hlo hfit hnil hR) ?_
   rintro e w' ⟨wb, room, W, rfl, q1, q2, q3⟩
   exact ⟨q3, .inr ⟨wb, room, nb, f, b, W, rfl, q1, q2⟩⟩
  ·refine Calls.mono (begun_off a hcap H nb frI blI rI n1 hnb hz hnil hR) ?_
   rintro e w' ⟨rfl, b⟩
   exact ⟨b, .inl rfl⟩
def WE (b : Prop) (W : Nat → Prop) (w : World) (wb room nb fr bl K lasted : Nat) (H : List Int) (Us : List (List Pm)) : Prop :=
 ∃ Z p c j g tried tl td hb hc ta tc vs Ls n1 cs d s, Wx Z w wb p c j g room nb fr bl K lasted tried tl td hb hc H ta tc vs Us Ls n1 cs d s ∧ On d s nb fr bl lasted (imgB H) (plainT Us) ∧ W = Mu Z wb tl td Ls g (.slice ta Us.length tc) ∧ (b → d.puts = [] ∧ ∀ x, HomeB nb fr bl x → imgB d.img x = contT (imgB H) (plainT Us) Us.length x)
theorem WE.wd {b : Prop} {W : Nat → Prop} {w : World} {wb room nb fr bl K lasted : Nat} {H : List Int} {Us : List (List Pm)} (h : WE b W w wb room nb fr bl K lasted H Us) : WD W w wb room nb fr bl K lasted H Us := by
 obtain ⟨Z, p, c, j, g, tried, tl, td, hb, hc, ta, tc, vs, Ls, n1, cs, d, s, h, hOn, hW, _⟩ := h
 exact ⟨Z, p, c, j, g, tried, tl, td, hb, hc, ta, tc, vs, Ls, n1, cs, d, s, h, hOn, hW⟩
theorem WD.we {b : Prop} {W : Nat → Prop} {w : World} {wb room nb fr bl K lasted : Nat} {H : List Int} {Us : List (List Pm)} (h : WD W w wb room nb fr bl K lasted H Us) (hb : ¬ b) : WE b W w wb room nb fr bl K lasted H Us := by
 obtain ⟨Z, p, c, j, g, tried, tl, td, hb', hc, ta, tc, vs, Ls, n1, cs, d, s, h, hOn, hW⟩ := h
 exact ⟨Z, p, c, j, g, tried, tl, td, hb', hc, ta, tc, vs, Ls, n1, cs, d, s, h, hOn, hW, fun q => absurd q hb⟩
set_option maxRecDepth 100000 in
set_option maxHeartbeats 4000000 in
theorem act_check2 {W : Nat → Prop} {w : World} {wb room nb fr bl K lasted : Nat} {H : List Int} {Us : List (List Pm)} (hWD : WD W w wb room nb fr bl K lasted H Us) (at_ keep again : Int) (pv : Value) :
  Calls Tryz.prog 11 #[.pointer (some ⟨wb, 0, none⟩), .agg #[.int .i64 4, .int .i64 at_, pv, .int .u64 keep, .int .i64 (-1), .int .i64 again]] w fun e w' => e = .returned (.bool true) ∧ But W w w' ∧ ∃ W', WE True W' w' wb room nb fr bl K Us.length H Us ∧ (∀ k, k < w.heap.size → W' k → W k) := by
 obtain ⟨PO, hPO⟩ : ∃ PO : Ending → World → Prop, PO = fun e w' => e = .returned (.bool true) ∧ But W w w' ∧ ∃ W', WE True W' w' wb room nb fr bl K Us.length H Us ∧ (∀ k, k < w.heap.size → W' k → W k) := ⟨_, rfl⟩
 rw [← hPO]
 obtain ⟨w1, hw1⟩ : ∃ w1, w1 = w.alloc (.cells #[.int .i64 4, .int .i64 at_, pv, .int .u64 keep, .int .i64 (-1), .int .i64 again] 33) := ⟨_, rfl⟩
 have b1 : Below w.heap.size w w1 := by rw [hw1]; exact (Below.refl _ _).alloc (Nat.le_refl _) _
 have hWD1 := hWD.below b1
 obtain ⟨Z, p, c, j, g, tried, tl, td, hb, hc, ta, tc, vs, Ls, n1, cs, d, s, h, hOn, hW⟩ := hWD1
 have k2' : (w.alloc (.cells #[.int .i64 4, .int .i64 at_, pv, .int .u64 keep, .int .i64 (-1), .int .i64 again] 33)).cell? ⟨wb, 2, none⟩ = some (.pointer (some ⟨j, 0, none⟩)) := by rw [← hw1]; exact h.wd.cell 2
 have hpl := hOn.puts h.lo h.fit h.nb
 have HF : Hid (Calls Tryz.prog 47 #[.pointer (some ⟨j, 0, none⟩)] w1 fun e w2 => e = .returned (.int .i64 0) ∧ Calls Tryz.prog 46 #[.pointer (some ⟨wb, 0, none⟩), .int .i64 0] w2 fun e w3 => ∃ b, e = .returned (.bool b) ∧ PO (.returned (.bool b)) w3) := by
  have hnb9 := h.nb
  have hfit9 := h.fit
  refine Calls.mono (Checkpoint_on h.jq (hOn.jn h.lo h.fit h.nb) hOn.on (by omega)) ?_
  rintro e w2 ⟨rfl, ⟨Z', s', q1, q2, q3⟩, q4⟩
  obtain ⟨f1, _, f3⟩ := Pd.runs_free hOn.on h.fu (settleCmds nb fr bl s)
  rw [f1]
  have hq := q2 f1
  rw [hq] at q1
  have x2 := h.turn q1.cut (fun k q => q.2) (fun k hk q => q3 k hk q.1) q4 f3
  refine ⟨rfl, Calls.mono (lasts_any x2) ?_⟩
  rintro e w3 ⟨rfl, rfl⟩
  refine ⟨true, rfl, ?_⟩
  rw [hPO]
  obtain ⟨hon, hpe, him⟩ := (hOn.settle h.jq.fits.1 h.lo h.fit h.nb).1 f1
  have hUl : (plainT Us).length = Us.length := by simp [plainT]
  rw [hUl] at hon him
  refine ⟨rfl, ?_, _, ⟨_, p, c, j, g, tried, tl, td, hb, hc, ta, tc, vs, Ls, n1, cs, _, _, x2.lasts Us.length, hon, rfl, fun _ => ⟨hpe, him⟩⟩, fun k hk q => ?_⟩
  ·have c1 : But W w w2 := (But.of_below b1 (X := W)).comp q4 (fun k _ q => by rw [hW]; exact .inl (.inl q))
   exact c1.setCell (by rw [hW]; exact .inl (.inr (.inl rfl))) _
  ·rw [hW]
   rcases q with (q | q) | q
   ·exact .inl (.inl (q3 k (Nat.lt_of_lt_of_le hk b1.size) q.1))
   ·exact .inl (.inr q)
   ·exact .inr q
 have HW1 := hid hw1
 clear hWD h hOn hW hPO hw1 b1 hpl
 go_enter Tryz.func11, Tryz.ntmps11
 go_wp2_with fail
 rw [← HW1.out]
 refine Calls.mono HF.out ?_
 rintro e w2 ⟨rfl, hL⟩
 have HL := hid hL
 clear hL HF
 go_wp2_with fail
 refine Calls.mono HL.out ?_
 rintro e w3 ⟨b, rfl, hP⟩
 have FIN := hid hP
 clear hP HL
 go_wp2
 exact FIN.out
theorem WE.monoK {b : Prop} {W : Nat → Prop} {w : World} {wb room nb fr bl K K' lasted : Nat} {H : List Int} {Us : List (List Pm)} (h : WE b W w wb room nb fr bl K lasted H Us) (hK : K ≤ K') : WE b W w wb room nb fr bl K' lasted H Us := by
 obtain ⟨Z, p, c, j, g, tried, tl, td, hb, hc, ta, tc, vs, Ls, n1, cs, d, s, h, hOn, hW, hx⟩ := h
 exact ⟨Z, p, c, j, g, tried, tl, td, hb, hc, ta, tc, vs, Ls, n1, cs, d, s, ⟨h.wd, h.lg, h.jq.monoK hK, h.fu, h.tr, h.ls, h.n1, h.nl, h.zw, h.zt, h.tw, h.lt, h.zb, h.lo, h.fit, h.r1, h.r2⟩, hOn, hW, hx⟩
theorem act_all {W : Nat → Prop} {w : World} {wb room nb fr bl K lasted : Nat} {H : List Int} {Us : List (List Pm)} (hWD : WD W w wb room nb fr bl K lasted H Us) (hK : K + nb < 4611686018427387904) (kd at_ keep fz again : Int) (hfz : fz = -1 ∨ kd = 7) (a0 : Option Addr) (cp : Nat) (ps : List Pm) (hR : RdP W w a0 ps) (hN : ps.length ≤ 536870912) (hd : ∀ p ∈ ps, p.data.length ≤ 16777216 ∧ (p.ad = none → p.cap = 0)) :
  Calls Tryz.prog 11 #[.pointer (some ⟨wb, 0, none⟩), .agg #[.int .i64 kd, .int .i64 at_, .slice a0 ps.length cp, .int .u64 keep, .int .i64 fz, .int .i64 again]] w fun e w' => e = .returned (.bool true) ∧ But W w w' ∧ ∃ W' lasted' Us', WE (kd = 4) W' w' wb room nb fr bl (K + nb + 1) lasted' H Us' ∧ (∀ k, k < w.heap.size → W' k → W k) ∧ (kd = 3 ∨ kd = 4 → lasted' = Us'.length) := by
 by_cases h4 : kd = 4
 ·have hf : fz = -1 := hfz.resolve_right (by omega)
  subst h4 hf
  refine Calls.mono (act_check2 hWD at_ keep again _) ?_
  rintro e w' ⟨rfl, q1, W', q2, q3⟩
  obtain ⟨Z, p, c, j, g, tried, tl, td, hb, hc, ta, tc, vs, Ls, n1, cs, d, s, h, hOn, hW, hx⟩ := q2.monoK (K' := K + nb + 1) (by omega)
  exact ⟨rfl, q1, W', Us.length, Us, ⟨Z, p, c, j, g, tried, tl, td, hb, hc, ta, tc, vs, Ls, n1, cs, d, s, h, hOn, hW, fun _ => hx trivial⟩, q3, fun _ => rfl⟩
 ·refine Calls.mono (act_any hWD hK kd at_ keep fz again hfz a0 cp ps hR hN hd) ?_
  rintro e w' ⟨rfl, q1, W', l', Us', q2, q3, q4⟩
  exact ⟨rfl, q1, W', l', Us', q2.we h4, q3, q4⟩
theorem WE.left {b : Prop} {W : Nat → Prop} {w : World} {wb room nb fr bl K lasted : Nat} {H : List Int} {Us : List (List Pm)} (h : WE b W w wb room nb fr bl K lasted H Us) (mask : Int) :
  Calls Tryz.prog 12 #[.pointer (some ⟨wb, 0, none⟩), .int .u64 mask] w fun e w' => ∃ ib ic I, e = .returned (.tuple #[.slice (some ⟨ib, 0, none⟩) (512 * nb) ic, .bool true]) ∧ Below w.heap.size w w' ∧ Own w' ib (512 * nb) ic I ∧ Pl.isB I ∧ (b → ∀ x, HomeB nb fr bl x → imgB I x = contT (imgB H) (plainT Us) Us.length x) ∧ ∀ w'', Below w'.heap.size w' w'' → Calls Tryz.prog 13 #[.pointer (some ⟨wb, 0, none⟩), .slice (some ⟨ib, 0, none⟩) (512 * nb) ic] w'' fun e w3 => e = .returned (.bool true) ∧ Below w''.heap.size w'' w3 := by
 obtain ⟨Z, p, c, j, g, tried, tl, td, hb, hc, ta, tc, vs, Ls, n1, cs, d, s, h, hOn, hW, hx⟩ := h
 have hpl := hOn.puts h.lo h.fit h.nb
 have hnb9 := h.nb
 refine Calls.mono (left_any h.wd h.lg.lg h.jq.dk.1 h.jq.fits.1 (by omega) mask) ?_
 rintro e w' ⟨ib, ic, I, rfl, _, q2, q3, q4, q5, q6⟩
 refine ⟨ib, ic, I, rfl, q6, q2, q3, fun hb' x hxh => ?_, fun w'' b'' => ?_⟩
 ·obtain ⟨r1, r2⟩ := hx hb'
  rw [q5 r1]
  exact r2 x hxh
 ·have h2 := (h.below q6).below b''
  exact probe_any h2.wd h2.lg h.r1 h.r2 (q2.keep (b''.block ib q2.lt)) q3 (hOn.cut h.lo h.fit h.nb) (fun x _ => q4 x) (Int.le_refl _) h.lo h.fit h.nb (hOn.us h.lo h.fit h.nb).2
theorem WD.log {W : Nat → Prop} {w : World} {wb room nb fr bl K lasted : Nat} {H : List Int} {Us : List (List Pm)} (h : WD W w wb room nb fr bl K lasted H Us) : nb ≤ 524288 ∧ 1 ≤ nb ∧ Us.length ≤ 1099511627776 ∧ ∃ g ta tc, ∀ w', Below w.heap.size w w' → w'.cell? ⟨wb, 3, none⟩ = some (.pointer (some ⟨g, 0, none⟩)) ∧ w'.cell? ⟨wb, 5, none⟩ = some (.int .i64 (lasted : Int)) ∧ w'.cell? ⟨g, 3, none⟩ = some (.slice ta Us.length tc) ∧ (Calls Tryz.prog 14 #[.pointer (some ⟨g, 0, none⟩)] w' fun e w'' => e = .returned (.int .i64 (nb : Int)) ∧ w'' = w') ∧ (∀ at_ : Int, Calls Tryz.prog 15 #[.pointer (some ⟨g, 0, none⟩), .int .i64 at_] w' fun e w'' => e = .returned (.int .i64 (homeC nb fr bl at_)) ∧ Below w'.heap.size w' w'') ∧ ∀ x, x < nb → Calls Tryz.prog 17 #[.pointer (some ⟨g, 0, none⟩), .int .i64 (x : Int), .int .i64 (Us.length : Int)] w' fun e w'' => ∃ g' cp, e = .returned (.slice (some ⟨g', 0, none⟩) 512 cp) ∧ Own w'' g' 512 cp (contT (imgB H) (plainT Us) Us.length x) ∧ Below w'.heap.size w' w'' := by
 obtain ⟨Z, p, c, j, g, tried, tl, td, hb, hc, ta, tc, vs, Ls, n1, cs, d, s, h, hOn, hW⟩ := h
 refine ⟨h.nb, h.jq.fits.2.1, (hOn.us h.lo h.fit h.nb).2, g, ta, tc, fun w' hb' => ?_⟩
 have h' := h.below hb'
 refine ⟨h'.wd.cell 3, h'.wd.cell 5, h'.lg.lg.c3, refDisk_any h'.lg.lg h.nb, fun at_ => refAt_any h'.lg.lg h.nb h.fit at_, fun x hx => ?_⟩
 refine Calls.mono (refBehind_any h'.lg h.nb x hx Us.length (Nat.le_refl _) (hOn.us h.lo h.fit h.nb).2) ?_
 rintro e w'' ⟨g', cp, rfl, _, q2, q3⟩
 exact ⟨g', cp, rfl, q2, q3⟩
end Go.Proofs.YtldlejpacgphmaaGreat
namespace Go.Proofs.YtldlejpacgphmaaGreat
open Go.ChangeShapes Go.WideShapes Go.ChangeAt Go.RowKit Go.Deep
theorem rd_of_open {W : World} {x : Addr} {len cap : Nat} {zs : List Int} (hl : len ≤ cap) (hz : zs.length = cap) (hcell : ∀ i, i < zs.length → W.cell? (x.add i) = some (.int .u8 (zs.getD i 0))) (hwz : ∀ n ∈ zs, (Lit.int .u8 n).wf = true) :
  Rd W.heap.size W (some x) len (zs.take len) := by
 refine ⟨by simp; omega, fun z hzm => ?_, ?_⟩
 ·have := bounds_u8 (hwz z (List.mem_of_mem_take hzm))
  omega
 ·by_cases h0 : len = 0
  ·exact .inl h0
  ·obtain ⟨b, off, spot⟩ := x
   have hc := hcell 0 (by omega)
   have hspot : spot = none := by simpa [Addr.add] using World.cell?_spot hc
   subst hspot
   have hadd : ∀ t, (⟨b, off, none⟩ : Addr).add t = ⟨b, off + t, none⟩ := fun t => by unfold Addr.add; split <;> simp_all
   refine .inr ⟨b, off, rfl, World.block_lt_of_cell? W ⟨b, off, none⟩ (by rw [hadd] at hc; exact hc), fun t ht => ?_⟩
   rw [← hadd, hcell t (by omega), List.getD_eq_getElem?_getD, List.getD_eq_getElem?_getD, List.getElem?_take_of_lt ht]
theorem bulk_one {H : Type} (d : DataW H) : 1 ≤ Rows.uptoBulk d := by
 cases d with
 | lit l => cases l <;> simp [Rows.uptoBulk]
 | nil => simp [Rows.uptoBulk]
 | ptr d => simp [Rows.uptoBulk]
 | slice elems spare => simp [Rows.uptoBulk]
 | agg parts => simp [Rows.uptoBulk]
 | iface t d => simp [Rows.uptoBulk]
 | map entries => simp [Rows.uptoBulk]
 | held h => simp [Rows.uptoBulk]
theorem bulk_len {H : Type} (l : List (DataW H)) : l.length ≤ Rows.uptoBulkAll l := by
 induction l with
 | nil => simp [Rows.uptoBulkAll]
 | cons x r ih => have := bulk_one x; simp only [Rows.uptoBulkAll, List.length_cons]; omega
theorem bulk_mem {H : Type} {d : DataW H} {l : List (DataW H)} (h : d ∈ l) : Rows.uptoBulk d ≤ Rows.uptoBulkAll l := by
 induction l with
 | nil => cases h
 | cons x r ih =>
  simp only [Rows.uptoBulkAll]
  cases List.mem_cons.1 h with
  | inl e => subst e; omega
  | inr e => have := ih e; omega
theorem bulk_slice {H : Type} (elems spare : List (DataW H)) : elems.length ≤ Rows.uptoBulk (.slice elems spare) := by
 have h1 := bulk_len elems
 simp only [Rows.uptoBulk]
 omega
set_option maxRecDepth 100000 in
theorem bulk_bound {H : Type} {l : List (DataW H)} (hk : Rows.uptoSmall H l = true) : Rows.uptoBulkAll l ≤ 1048576 := of_decide_eq_true hk
theorem spot_none {W : World} {x : Addr} {v : Value} (h : W.cell? (x.add 0) = some v) : ∃ b off, x = ⟨b, off, none⟩ := by
 obtain ⟨b, off, spot⟩ := x
 have hspot : spot = none := by simpa [Addr.add] using World.cell?_spot h
 subst hspot
 exact ⟨b, off, rfl⟩
theorem add_plain (b off t : Nat) : (⟨b, off, none⟩ : Addr).add t = ⟨b, off + t, none⟩ := by unfold Addr.add; split <;> simp_all
theorem open_bc {H : Type} {enc : TypeId × Value → H} {W : World} {v : Value} {fuel : Nat} {x : DataW H × List MemPlace} (hf : DataW.trod enc Tryz.prog W 0 (fun _ => true) true fuel 22 [v] = some x) :
  ∃ a n c zs, v = .slice a n c ∧ Rd W.heap.size W a n zs ∧ n ≤ Rows.uptoBulk x.1 ∧ (a = none → c = 0) := by
 rcases open_ints Tryz.underlying22 Tryz.underlying5 (by kernel_rfl) hf with ⟨hcs, hx⟩ | ⟨x', l, c, zs, hcs, hp, hl, hm, hz, hx, hcell, hwz⟩
 ·simp at hcs
  subst hcs
  exact ⟨none, 0, 0, [], rfl, ⟨rfl, Pl.isB_nil, .inl rfl⟩, by omega, fun _ => rfl⟩
 ·simp at hcs
  subst hcs
  have hz' : zs.length = c := by simpa using hz
  refine ⟨some x', l, c, zs.take l, rfl, rd_of_open hl hz' hcell hwz, ?_, fun q => by cases q⟩
  rw [hx]
  have := bulk_slice (H := H) (lits .u8 (zs.take l)) (lits .u8 (zs.drop l))
  simp only [lits, List.length_map, List.length_take] at this
  simp only [lits]
  omega
theorem open_two {H : Type} {enc : TypeId × Value → H} {P : Program} {w : World} {base : Nat} {spare : Nat → Bool} {held : Bool} {t e : TypeId} {f0 f1 : Field} {fuel : Nat} {cs : List Value} {x : DataW H × List MemPlace}
  (ht : P.underlying t = some (.slice e)) (he : P.underlying e = some (.struct #[f0, f1])) (ce : P.cellsOf e = 2) (o0 : f0.offset = 0) (o1 : f1.offset = 1) (c0 : P.cellsOf f0.type = 1) (c1 : P.cellsOf f1.type = 1)
  (h : DataW.trod enc P w base spare held fuel t cs = some x) :
  (cs = [.slice none 0 0] ∧ x = (.nil, [])) ∨
  ∃ (a : Addr) (len cap m n : Nat) (D : Nat → DataW H), cs = [.slice (some a) len cap] ∧ len ≤ cap ∧ m = (if spare a.block then cap else len) ∧ x.1 = .slice ((List.range len).map D) ((List.range (m - len)).map fun j => D (len + j)) ∧
   ∀ i, i < m → ∃ (v0 v1 : Value) (y0 y1 : DataW H × List MemPlace), w.cell? (a.add (i * 2)) = some v0 ∧ w.cell? (a.add (i * 2 + 1)) = some v1 ∧
    DataW.trod enc P w base spare held (n - 1) f0.type [v0] = some y0 ∧ DataW.trod enc P w base spare held (n - 1) f1.type [v1] = some y1 ∧ D i = .agg [y0.1, y1.1] := by
 rcases open_slice ht h with h0 | ⟨a, len, cap, m, n, D, Pl, rfl, hb, hl, hm, hmm, rfl, hx⟩
 ·exact Or.inl h0
 refine .inr ⟨a, len, cap, m, n, D, rfl, hl, hmm, rfl, ?_⟩
 intro i hi
 obtain ⟨cs', h1, h2⟩ := hx i hi
 rw [ce] at h1
 obtain ⟨_, hlen, hcell⟩ := World.cells?_some h1
 obtain ⟨xs, k, hk, hxy, _, hxl, hf⟩ := DataW.trod_struct he h2
 have hk' : k = n - 1 := by omega
 subst hk'
 match xs, hxl, cs', hlen with
 | [y0, y1], _, [v0, v1], _ =>
  have g0 := hf 0 f0 rfl
  have g1 := hf 1 f1 rfl
  simp [o0, o1, c0, c1] at g0 g1
  have e0 := hcell 0 (by omega)
  have e1 := hcell 1 (by omega)
  rw [add_add] at e0 e1
  simp only [Prod.mk.injEq] at hxy
  exact ⟨v0, v1, y0, y1, by simpa using e0, by simpa using e1, g0, g1, by simpa using hxy.1⟩
theorem open_puts {H : Type} {enc : TypeId × Value → H} {W : World} {v : Value} {fuel : Nat} {x : DataW H × List MemPlace} (hf : DataW.trod enc Tryz.prog W 0 (fun _ => true) true fuel 30 [v] = some x) :
  ∃ a c ps, v = .slice a ps.length c ∧ RdP (fun _ => False) W a ps ∧ ps.length ≤ Rows.uptoBulk x.1 ∧ (∀ p ∈ ps, p.data.length ≤ Rows.uptoBulk x.1 ∧ (p.ad = none → p.cap = 0)) ∧ (a = none → c = 0) := by
 rcases open_two Tryz.underlying30 Tryz.underlying68 (by kernel_rfl) rfl rfl (by kernel_rfl) (by kernel_rfl) hf with ⟨hcs, hx⟩ | ⟨x1, len, c, m, n, D, hcs, hl, hmm, hx, hall⟩
 ·simp at hcs
  subst hcs
  exact ⟨none, 0, [], rfl, ⟨(fun p hp => by cases hp), .inl rfl⟩, by simp, (fun p hp => by cases hp), fun _ => rfl⟩
 ·simp at hcs
  subst hcs
  have hm' : m = c := by simpa using hmm
  subst hm'
  have hsum : len ≤ Rows.uptoBulk x.1 ∧ ∀ i, i < len → Rows.uptoBulk (D i) ≤ Rows.uptoBulk x.1 := by
   rw [hx]
   have h1 := bulk_slice (H := H) ((List.range len).map D) ((List.range (m - len)).map fun j => D (len + j))
   simp only [List.length_map, List.length_range] at h1
   refine ⟨h1, fun i hi => ?_⟩
   have := bulk_mem (d := D i) (l := (List.range len).map D) (List.mem_map.2 ⟨i, List.mem_range.2 hi, rfl⟩)
   simp only [Rows.uptoBulk]
   omega
  have each : ∀ i, i < len → ∃ q : Pm, (W.cell? (x1.add (i * 2)) = some (.int .i64 q.at_) ∧ W.cell? (x1.add (i * 2 + 1)) = some (.slice q.ad q.data.length q.cap)) ∧ Rd W.heap.size W q.ad q.data.length q.data ∧ q.data.length ≤ Rows.uptoBulk x.1 ∧ (q.ad = none → q.cap = 0) := by
   intro i hi
   obtain ⟨v0, v1, y0, y1, e0, e1, t0, t1, hD⟩ := hall i (by omega)
   obtain ⟨q0, eq0, _, _⟩ := DataW.trod_int Tryz.underlying3 t0
   simp at eq0
   subst eq0
   obtain ⟨aa, nn, cc, zs, rfl, hR, hn, hz⟩ := open_bc t1
   have hb := hsum.2 i hi
   rw [hD] at hb
   simp only [Rows.uptoBulk, Rows.uptoBulkAll] at hb
   have hzl : zs.length = nn := hR.1
   subst hzl
   exact ⟨⟨q0, aa, cc, zs⟩, ⟨e0, e1⟩, hR, by show zs.length ≤ _; omega, hz⟩
  have : Inhabited Pm := ⟨⟨0, none, 0, []⟩⟩
  obtain ⟨q, hq⟩ := choose_lt each
  have hlen : ((List.range len).map q).length = len := by simp
  refine ⟨some x1, m, (List.range len).map q, by rw [hlen], ⟨fun p hp => ?_, ?_⟩, by rw [hlen]; exact hsum.1, fun p hp => ?_, fun e => by cases e⟩
  ·obtain ⟨i, hi, rfl⟩ := List.mem_map.1 hp
   obtain ⟨r1, r2, r3⟩ := (hq i (List.mem_range.1 hi)).2.1
   exact ⟨r1, r2, r3.imp id (fun ⟨b, o, s1, s2, s3⟩ => ⟨b, o, s1, s2, fun h => h, s3⟩)⟩
  ·by_cases h0 : len = 0
   ·subst h0; exact .inl rfl
   ·obtain ⟨b, off, rfl⟩ := spot_none (by have := (hq 0 (by omega)).1.1; simpa using this)
    refine .inr ⟨b, off, rfl, ?_, fun h => h, fun i d hi => ?_⟩
    ·have := (hq 0 (by omega)).1.1
     rw [add_plain] at this
     exact World.block_lt_of_cell? W ⟨b, off, none⟩ (by simpa using this)
    ·have hil : i < len := by have := (List.getElem?_eq_some_iff.1 hi).1; simpa using this
     have hd : d = q i := by
      rw [List.getElem?_map, List.getElem?_range hil] at hi
      simpa using hi.symm
     subst hd
     have hh := (hq i hil).1
     simp only [add_plain, ← Nat.add_assoc] at hh
     exact hh
  ·obtain ⟨i, hi, rfl⟩ := List.mem_map.1 hp
   exact (hq i (List.mem_range.1 hi)).2.2
end Go.Proofs.YtldlejpacgphmaaGreat
namespace Go.Proofs.YtldlejpacgphmaaGreat
open Go.ChangeShapes Go.WideShapes Go.ChangeAt Go.RowKit Go.Deep
structure Ac where
 kd : Int
 at_ : Int
 a0 : Option Addr
 cp : Nat
 ps : List Pm
 keep : Int
 fz : Int
 again : Int
def RdA (B : Nat) (w : World) (a : Option Addr) (As : List Ac) : Prop :=
 As = [] ∨ ∃ b off, a = some ⟨b, off, none⟩ ∧ b < B ∧ ∀ t q, As[t]? = some q → w.cell? ⟨b, off + t * 6, none⟩ = some (.int .i64 q.kd) ∧ w.cell? ⟨b, off + t * 6 + 1, none⟩ = some (.int .i64 q.at_) ∧ w.cell? ⟨b, off + t * 6 + 2, none⟩ = some (.slice q.a0 q.ps.length q.cp) ∧ w.cell? ⟨b, off + t * 6 + 3, none⟩ = some (.int .u64 q.keep) ∧ w.cell? ⟨b, off + t * 6 + 4, none⟩ = some (.int .i64 q.fz) ∧ w.cell? ⟨b, off + t * 6 + 5, none⟩ = some (.int .i64 q.again)
theorem RdA.below {B : Nat} {w w' : World} {a : Option Addr} {As : List Ac} (h : RdA B w a As) (hb : Below B w w') : RdA B w' a As := by
 refine h.imp id (fun ⟨b, o, e, l, q⟩ => ⟨b, o, e, l, fun t d hd => ?_⟩)
 obtain ⟨q0, q1, q2, q3, q4, q5⟩ := q t d hd
 exact ⟨(hb.cell (p := ⟨b, _, none⟩) l).trans q0, (hb.cell (p := ⟨b, _, none⟩) l).trans q1, (hb.cell (p := ⟨b, _, none⟩) l).trans q2, (hb.cell (p := ⟨b, _, none⟩) l).trans q3, (hb.cell (p := ⟨b, _, none⟩) l).trans q4, (hb.cell (p := ⟨b, _, none⟩) l).trans q5⟩
theorem open_six {H : Type} {enc : TypeId × Value → H} {P : Program} {w : World} {base : Nat} {spare : Nat → Bool} {held : Bool} {t e : TypeId} {f0 f1 f2 f3 f4 f5 : Field} {fuel : Nat} {cs : List Value} {x : DataW H × List MemPlace}
  (ht : P.underlying t = some (.slice e)) (he : P.underlying e = some (.struct #[f0, f1, f2, f3, f4, f5])) (ce : P.cellsOf e = 6) (o0 : f0.offset = 0) (o1 : f1.offset = 1) (o2 : f2.offset = 2) (o3 : f3.offset = 3) (o4 : f4.offset = 4) (o5 : f5.offset = 5) (c0 : P.cellsOf f0.type = 1) (c1 : P.cellsOf f1.type = 1) (c2 : P.cellsOf f2.type = 1) (c3 : P.cellsOf f3.type = 1) (c4 : P.cellsOf f4.type = 1) (c5 : P.cellsOf f5.type = 1)
  (h : DataW.trod enc P w base spare held fuel t cs = some x) :
  (cs = [.slice none 0 0] ∧ x = (.nil, [])) ∨
  ∃ (a : Addr) (len cap m n : Nat) (D : Nat → DataW H), cs = [.slice (some a) len cap] ∧ len ≤ cap ∧ m = (if spare a.block then cap else len) ∧ x.1 = .slice ((List.range len).map D) ((List.range (m - len)).map fun j => D (len + j)) ∧
   ∀ i, i < m → ∃ (v0 v1 v2 v3 v4 v5 : Value) (y0 y1 y2 y3 y4 y5 : DataW H × List MemPlace), w.cell? (a.add (i * 6)) = some v0 ∧ w.cell? (a.add (i * 6 + 1)) = some v1 ∧ w.cell? (a.add (i * 6 + 2)) = some v2 ∧ w.cell? (a.add (i * 6 + 3)) = some v3 ∧ w.cell? (a.add (i * 6 + 4)) = some v4 ∧ w.cell? (a.add (i * 6 + 5)) = some v5 ∧
    DataW.trod enc P w base spare held (n - 1) f0.type [v0] = some y0 ∧ DataW.trod enc P w base spare held (n - 1) f1.type [v1] = some y1 ∧ DataW.trod enc P w base spare held (n - 1) f2.type [v2] = some y2 ∧ DataW.trod enc P w base spare held (n - 1) f3.type [v3] = some y3 ∧ DataW.trod enc P w base spare held (n - 1) f4.type [v4] = some y4 ∧ DataW.trod enc P w base spare held (n - 1) f5.type [v5] = some y5 ∧ D i = .agg [y0.1, y1.1, y2.1, y3.1, y4.1, y5.1] := by
 rcases open_slice ht h with h0 | ⟨a, len, cap, m, n, D, Pl, rfl, hb, hl, hm, hmm, rfl, hx⟩
 ·exact Or.inl h0
 refine .inr ⟨a, len, cap, m, n, D, rfl, hl, hmm, rfl, ?_⟩
 intro i hi
 obtain ⟨cs', h1, h2⟩ := hx i hi
 rw [ce] at h1
 obtain ⟨_, hlen, hcell⟩ := World.cells?_some h1
 obtain ⟨xs, k, hk, hxy, _, hxl, hf⟩ := DataW.trod_struct he h2
 have hk' : k = n - 1 := by omega
 subst hk'
 match xs, hxl, cs', hlen with
 | [y0, y1, y2, y3, y4, y5], _, [v0, v1, v2, v3, v4, v5], _ =>
  have g0 := hf 0 f0 rfl
  have g1 := hf 1 f1 rfl
  have g2 := hf 2 f2 rfl
  have g3 := hf 3 f3 rfl
  have g4 := hf 4 f4 rfl
  have g5 := hf 5 f5 rfl
  simp [o0, o1, o2, o3, o4, o5, c0, c1, c2, c3, c4, c5] at g0 g1 g2 g3 g4 g5
  have e0 := hcell 0 (by omega)
  have e1 := hcell 1 (by omega)
  have e2 := hcell 2 (by omega)
  have e3 := hcell 3 (by omega)
  have e4 := hcell 4 (by omega)
  have e5 := hcell 5 (by omega)
  rw [add_add] at e0 e1 e2 e3 e4 e5
  simp only [Prod.mk.injEq] at hxy
  exact ⟨v0, v1, v2, v3, v4, v5, y0, y1, y2, y3, y4, y5, by simpa using e0, by simpa using e1, by simpa using e2, by simpa using e3, by simpa using e4, by simpa using e5, g0, g1, g2, g3, g4, g5, by simpa using hxy.1⟩
theorem open_acts {H : Type} {enc : TypeId × Value → H} {W : World} {v : Value} {fuel : Nat} {x : DataW H × List MemPlace} (hf : DataW.trod enc Tryz.prog W 0 (fun _ => true) true fuel 25 [v] = some x) :
  ∃ a c As, v = .slice a As.length c ∧ RdA W.heap.size W a As ∧ As.length ≤ Rows.uptoBulk x.1 ∧ ∀ q ∈ As, RdP (fun _ => False) W q.a0 q.ps ∧ q.ps.length ≤ Rows.uptoBulk x.1 ∧ (∀ p ∈ q.ps, p.data.length ≤ Rows.uptoBulk x.1 ∧ (p.ad = none → p.cap = 0)) := by
 rcases open_six Tryz.underlying25 Tryz.underlying33 (by kernel_rfl) rfl rfl rfl rfl rfl rfl (by kernel_rfl) (by kernel_rfl) (by kernel_rfl) (by kernel_rfl) (by kernel_rfl) (by kernel_rfl) hf with ⟨hcs, hx⟩ | ⟨x1, len, c, m, n, D, hcs, hl, hmm, hx, hall⟩
 ·simp at hcs
  subst hcs
  exact ⟨none, 0, [], rfl, .inl rfl, by simp, fun p hp => by cases hp⟩
 ·simp at hcs
  subst hcs
  have hm' : m = c := by simpa using hmm
  subst hm'
  have hsum : len ≤ Rows.uptoBulk x.1 ∧ ∀ i, i < len → Rows.uptoBulk (D i) ≤ Rows.uptoBulk x.1 := by
   rw [hx]
   have h1 := bulk_slice (H := H) ((List.range len).map D) ((List.range (m - len)).map fun j => D (len + j))
   simp only [List.length_map, List.length_range] at h1
   refine ⟨h1, fun i hi => ?_⟩
   have := bulk_mem (d := D i) (l := (List.range len).map D) (List.mem_map.2 ⟨i, List.mem_range.2 hi, rfl⟩)
   simp only [Rows.uptoBulk]
   omega
  have each : ∀ i, i < len → ∃ q : Ac, (W.cell? (x1.add (i * 6)) = some (.int .i64 q.kd) ∧ W.cell? (x1.add (i * 6 + 1)) = some (.int .i64 q.at_) ∧ W.cell? (x1.add (i * 6 + 2)) = some (.slice q.a0 q.ps.length q.cp) ∧ W.cell? (x1.add (i * 6 + 3)) = some (.int .u64 q.keep) ∧ W.cell? (x1.add (i * 6 + 4)) = some (.int .i64 q.fz) ∧ W.cell? (x1.add (i * 6 + 5)) = some (.int .i64 q.again)) ∧ RdP (fun _ => False) W q.a0 q.ps ∧ q.ps.length ≤ Rows.uptoBulk x.1 ∧ (∀ p ∈ q.ps, p.data.length ≤ Rows.uptoBulk x.1 ∧ (p.ad = none → p.cap = 0)) := by
   intro i hi
   obtain ⟨v0, v1, v2, v3, v4, v5, y0, y1, y2, y3, y4, y5, e0, e1, e2, e3, e4, e5, t0, t1, t2, t3, t4, t5, hD⟩ := hall i (by omega)
   obtain ⟨q0, eq0, _, _⟩ := DataW.trod_int Tryz.underlying3 t0
   obtain ⟨q1, eq1, _, _⟩ := DataW.trod_int Tryz.underlying3 t1
   obtain ⟨q3, eq3, _, _⟩ := DataW.trod_int Tryz.underlying31 t3
   obtain ⟨q4, eq4, _, _⟩ := DataW.trod_int Tryz.underlying3 t4
   obtain ⟨q5, eq5, _, _⟩ := DataW.trod_int Tryz.underlying3 t5
   simp at eq0 eq1 eq3 eq4 eq5
   subst eq0 eq1 eq3 eq4 eq5
   obtain ⟨aa, cc, ps, rfl, hR, hn, hpd, _⟩ := open_puts t2
   have hb := hsum.2 i hi
   rw [hD] at hb
   simp only [Rows.uptoBulk, Rows.uptoBulkAll] at hb
   exact ⟨⟨q0, q1, aa, cc, ps, q3, q4, q5⟩, ⟨e0, e1, e2, e3, e4, e5⟩, hR, by show ps.length ≤ _; omega, fun p hp => ⟨by have := (hpd p hp).1; omega, (hpd p hp).2⟩⟩
  have : Inhabited Ac := ⟨⟨0, 0, none, 0, [], 0, 0, 0⟩⟩
  obtain ⟨q, hq⟩ := choose_lt each
  have hlen : ((List.range len).map q).length = len := by simp
  refine ⟨some x1, m, (List.range len).map q, by rw [hlen], ?_, by rw [hlen]; exact hsum.1, fun p hp => ?_⟩
  ·by_cases h0 : len = 0
   ·subst h0; exact .inl rfl
   ·obtain ⟨b, off, rfl⟩ := spot_none (by have := (hq 0 (by omega)).1.1; simpa using this)
    refine .inr ⟨b, off, rfl, ?_, fun i d hi => ?_⟩
    ·have := (hq 0 (by omega)).1.1
     rw [add_plain] at this
     exact World.block_lt_of_cell? W ⟨b, off, none⟩ (by simpa using this)
    ·have hil : i < len := by have := (List.getElem?_eq_some_iff.1 hi).1; simpa using this
     have hd : d = q i := by
      rw [List.getElem?_map, List.getElem?_range hil] at hi
      simpa using hi.symm
     subst hd
     have hh := (hq i hil).1
     simp only [add_plain, ← Nat.add_assoc] at hh
     exact hh
  ·obtain ⟨i, hi, rfl⟩ := List.mem_map.1 hp
   exact (hq i (List.mem_range.1 hi)).2
end Go.Proofs.YtldlejpacgphmaaGreat
