/-
  CopyRanges, CopyVolume.
-/
import Derived.Test.YtfglfbiibeffbaaVc0
namespace Go.Proofs.Ytfglfbiibeffbaa
open Go.RowKit

theorem results_row1 {P : Program} {fn : Func} {p : Tmp} {ty : TypeId} (h : fn.results = #[.cell p ty]) (tmps : Array Value) (w : World) (g : Nat) (t : TypeId) (cs : Array Value) (fr : Nat × Nat) (d : TypeDesc)
    (hp : tmps.getD p undef = .pointer (some ⟨g, 0, none⟩)) (hb : w.heap[g]? = some (.cells cs t fr)) (hu : P.underlying ty = some d) (hd : (match d with | .struct _ | .array _ _ => true | _ => false) = true) (hs : (P.info? ty).map (·.size) = some cs.size) : (results fn tmps).run P w = .ok (.agg cs) w := by
  have hp' := hp
  simp only [Array.getD_eq_getD_getElem?] at hp'
  simp only [results, h]
  simp [hp', asAddr, run_loadVar_row w g t ty cs fr d hb hu hd hs]
set_option maxRecDepth 100000 in
set_option maxHeartbeats 1000000 in
theorem CopyRanges_any (a : Option Addr) (c : Nat) (rs : List Rg) (w : World) (h : RdR w.heap.size w a rs) (ha : a = none → c = 0) (hn : rs.length ≤ 16777216) :
    Calls Try.prog 16 #[.slice a rs.length c] w fun e w' => ∃ v, e = .returned v ∧ OwR w.heap.size w' v rs ∧ Below w.heap.size w w' := by
  have ow0 : OwR w.heap.size (w.alloc (.cells #[] 32)) (.slice (some ⟨w.heap.size, 0, none⟩) 0 0) [] := ⟨rfl, .inr ⟨w.heap.size, 0, #[], rfl, Nat.le_refl _, heap_new _ _, Nat.le_refl _, Nat.zero_le _, rfl, rfl⟩⟩
  have b0 : Below w.heap.size w (w.alloc (.cells #[] 32)) := below1 _ _
  obtain ⟨v', w', hr, ho, hg⟩ := app_rg 28 ow0 (h.below b0) ha hn (by simp) (by simp)
  have HO := hid ho
  have HB := hid (b0.trans hg)
  clear ow0 b0 h ha ho hg
  generalize rs.length = n at *
  go_enter Try.func16, Try.ntmps16
  go_wp2_with (at_builtin; refine Lib.wpList_append_run _ rfl _ _ _ _ rfl _ _ rfl rfl _ _ hr ?_)
  go_ret
  exact ⟨v', rfl, by simpa using HO.out, HB.out⟩

/-- block R holds this volume -/
def VoB (w : World) (R : Nat) (o : PV) (v : Value) : Prop := w.heap[R]? = some (.cells (cells7 o v).toArray 30 (0, 0))
theorem VoB.lt {w : World} {R : Nat} {o : PV} {v : Value} (h : VoB w R o v) : R < w.heap.size := (Array.getElem?_eq_some_iff.1 h).1
theorem VoB.keep {w w' : World} {R : Nat} {o : PV} {v : Value} (h : VoB w R o v) (hw : w'.heap[R]? = w.heap[R]?) : VoB w' R o v := by unfold VoB at *; rw [hw]; exact h
theorem VoB.cs {w : World} {R : Nat} {o : PV} {v : Value} (h : VoB w R o v) : (w.cell? ⟨R, 0, none⟩ = some (.string o.nm) ∧ w.cell? ⟨R, 1, none⟩ = some (.int .i64 o.id) ∧ w.cell? ⟨R, 2, none⟩ = some (.int .i64 o.sz) ∧ w.cell? ⟨R, 3, none⟩ = some (.int .i64 o.og) ∧ w.cell? ⟨R, 4, none⟩ = some (.int .i64 o.kd) ∧ w.cell? ⟨R, 5, none⟩ = some (.bool o.pt) ∧ w.cell? ⟨R, 6, none⟩ = some v) ∧ ∀ i, w.frozen? ⟨R, i, none⟩ = false := by
  unfold VoB cells7 at h
  simp [World.cell?, World.frozen?, h]
theorem VoB.set6 {w : World} {R : Nat} {o : PV} {v : Value} (h : VoB w R o v) (u : Value) : VoB (w.setCell ⟨R, 6, none⟩ u) R o u := by
  unfold VoB at *
  simp only [World.setCell, Array.getElem?_modify, if_true]
  rw [h]
  simp [cells7]
def put7 (w : World) (R : Nat) (o : PV) (v : Value) : World := ((((((w.setCell ⟨R, 0, none⟩ (.string o.nm)).setCell ⟨R, 1, none⟩ (.int .i64 o.id)).setCell ⟨R, 2, none⟩ (.int .i64 o.sz)).setCell ⟨R, 3, none⟩ (.int .i64 o.og)).setCell ⟨R, 4, none⟩ (.int .i64 o.kd)).setCell ⟨R, 5, none⟩ (.bool o.pt)).setCell ⟨R, 6, none⟩ v
theorem VoB.put7 {w : World} {R : Nat} {o o' : PV} {v v' : Value} (h : VoB w R o v) : VoB (put7 w R o' v') R o' v' := by
  unfold VoB Go.Proofs.Ytfglfbiibeffbaa.put7 at *
  simp only [World.setCell, Array.getElem?_modify, if_true]
  rw [h]
  simp [cells7]
theorem but_put7 (w : World) (R : Nat) (o : PV) (v : Value) : But (fun x => x = R) w (put7 w R o v) := by
  unfold put7
  exact ((((((((But.refl (fun x => x = R) w).setCell (p := ⟨R, 0, none⟩) rfl _).setCell (p := ⟨R, 1, none⟩) rfl _).setCell (p := ⟨R, 2, none⟩) rfl _).setCell (p := ⟨R, 3, none⟩) rfl _).setCell (p := ⟨R, 4, none⟩) rfl _).setCell (p := ⟨R, 5, none⟩) rfl _).setCell (p := ⟨R, 6, none⟩) rfl _)
def PV0 : PV := ⟨⟨#[]⟩, 0, 0, 0, 0, false, []⟩

set_option maxRecDepth 100000 in
set_option maxHeartbeats 4000000 in
theorem CopyVolume_any (o : PV) (a : Option Addr) (c : Nat) (w : World) (h : RdR w.heap.size w a o.mp) (ha : a = none → c = 0) (hn : o.mp.length ≤ 16777216) :
    Calls Try.prog 11 #[volA o a c] w fun e w' => ∃ a' c', e = .returned (volA o a' c') ∧ OwR w.heap.size w' (.slice a' o.mp.length c') o.mp ∧ Below w.heap.size w w' := by
  obtain ⟨R, hR⟩ : ∃ R, R = w.heap.size := ⟨_, rfl⟩
  obtain ⟨W0, hW0⟩ : ∃ W0, W0 = (w.alloc (.cells #[.string o.nm, .int .i64 o.id, .int .i64 o.sz, .int .i64 o.og, .int .i64 o.kd, .bool o.pt, .slice a o.mp.length c] 30)).alloc (.cells #[.string ⟨#[]⟩, .int .i64 0, .int .i64 0, .int .i64 0, .int .i64 0, .bool false, .slice none 0 0] 30) := ⟨_, rfl⟩
  have b0 : Below w.heap.size w W0 := by rw [hW0]; exact two_below _ _ _
  have r0 : VoB W0 R o (.slice a o.mp.length c) := by
    unfold VoB
    rw [hW0, hR, Below.heap_alloc _ _ _ (by simp)]
    exact heap_new _ _
  have r1 : VoB W0 (R + 1) PV0 (.slice none 0 0) := by
    have := heap_new (w.alloc (.cells #[.string o.nm, .int .i64 o.id, .int .i64 o.sz, .int .i64 o.og, .int .i64 o.kd, .bool o.pt, .slice a o.mp.length c] 30)) (.cells #[.string ⟨#[]⟩, .int .i64 0, .int .i64 0, .int .i64 0, .int .i64 0, .bool false, .slice none 0 0] 30)
    rw [World.size_alloc, ← hR, ← hW0] at this
    exact this
  have HC : Hid (Calls Try.prog 16 #[.slice a o.mp.length c] W0 fun e w2 => ∃ va vn vc, e = .returned (.slice va vn vc) ∧ vn = o.mp.length ∧ (VoB w2 R o (.slice a o.mp.length c) ∧ VoB w2 (R + 1) PV0 (.slice none 0 0)) ∧ VoB (put7 (w2.setCell ⟨R, 6, none⟩ (.slice va vn vc)) (R + 1) o (.slice va vn vc)) (R + 1) o (.slice va vn vc) ∧ OwR w.heap.size (put7 (w2.setCell ⟨R, 6, none⟩ (.slice va vn vc)) (R + 1) o (.slice va vn vc)) (.slice va vn vc) o.mp ∧ Below w.heap.size w (put7 (w2.setCell ⟨R, 6, none⟩ (.slice va vn vc)) (R + 1) o (.slice va vn vc))) := by
    refine (CopyRanges_any a c o.mp W0 ((h.below b0).mono b0.size) ha hn).mono ?_
    rintro e w2 ⟨v, rfl, ho, hb⟩
    obtain ⟨va, vc, rfl, _⟩ := ho.rd
    have s0 : VoB w2 R o (.slice a o.mp.length c) := r0.keep (hb.block _ r0.lt)
    have s1 : VoB w2 (R + 1) PV0 (.slice none 0 0) := r1.keep (hb.block _ r1.lt)
    have e1 : But (fun x => x = R) w2 (w2.setCell ⟨R, 6, none⟩ (.slice va o.mp.length vc)) := (But.refl (fun x => x = R) w2).setCell (p := ⟨R, 6, none⟩) rfl _
    have s3 : VoB (w2.setCell ⟨R, 6, none⟩ (.slice va o.mp.length vc)) (R + 1) PV0 (.slice none 0 0) := s1.keep (e1.block _ s1.lt (by omega))
    have e2 := but_put7 (w2.setCell ⟨R, 6, none⟩ (.slice va o.mp.length vc)) (R + 1) o (.slice va o.mp.length vc)
    have hz := hb.size
    have z0 := r1.lt
    have zz := e1.size
    refine ⟨va, _, vc, rfl, rfl, ⟨s0, s1⟩, s3.put7, own_mono (own_keep ho fun g hg => ?_) b0.size, ?_⟩
    · obtain ⟨q1, q2, _⟩ := own_blk ho hg
      exact (e2.block g (Nat.lt_of_lt_of_le q2 e1.size) (by omega)).trans (e1.block g q2 (by omega))
    · exact ((b0.trans (hb.mono b0.size)).trans (e1.below (by omega) (fun x hx e => by omega))).trans (e2.below (by omega) (fun x hx e => by omega))
  have HW0 := hid hW0
  have HR := hid hR
  clear hW0 b0 r0 r1 h ha hn
  dsimp only [volA]
  generalize hml : o.mp.length = n at *
  have HL := hid hml
  clear hml
  go_enter Try.func11, Try.ntmps11
  go_wp2_with fail
  rw [← HW0.out]
  try rw [← HR.out]
  refine HC.out.mono ?_
  rintro e w2 ⟨va, vn, vc, rfl, hvn, ⟨s0, s3⟩, p1, p2, p3⟩
  have HP1 := hid p1
  have HP2 := hid p2
  have HP3 := hid p3
  have HV := hid hvn
  obtain ⟨⟨c0, c1, c2, c3, c4, c5, c6⟩, y0⟩ := s0.cs
  obtain ⟨⟨g0, g1, g2, g3, g4, g5, g6⟩, z0⟩ := s3.cs
  clear p1 p2 p3 s0 s3 HC HW0 hR hvn
  go_wp2_with fail
  have HFin : Hid (∀ x, x = put7 (w2.setCell ⟨R, 6, none⟩ (.slice va vn vc)) (R + 1) o (.slice va vn vc) → VoB x (R + 1) o (.slice va vn vc) ∧ OwR w.heap.size x (.slice va vn vc) o.mp ∧ Below w.heap.size w x) := by
    rintro x rfl
    exact ⟨HP1.out, HP2.out, HP3.out⟩
  have hvn := HV.out
  subst hvn
  exact bodyPost_ret (results_row1 rfl _ _ (R + 1) 30 _ (0, 0) _ rfl (HFin.out _ rfl).1 Try.underlying30 rfl (by kernel_rfl)) rfl ⟨va, vc, rfl, (HFin.out _ rfl).2⟩

end Go.Proofs.Ytfglfbiibeffbaa
