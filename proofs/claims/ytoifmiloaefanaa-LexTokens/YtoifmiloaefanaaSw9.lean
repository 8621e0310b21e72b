/-
  The Shelf: Own: its chain of calls.
-/
import Derived.Test.YtoifmiloaefanaaSw8
namespace Go.Proofs.Ytoifmiloaefanaa
open Go.RowKit

/-- a shelf behind so many lists -/
def SH (κ : Nat → Nat) (B s N : Nat) (w : World) : Prop := ∃ (mk : Int) (T : Nat) (fs : List (Value × List Tk)) (fv hv kv wv : Value) (hs xs ys : List Value) (Ms : List (List Tk)), Shf κ B s mk (T : Int) fs fv hv kv wv hs xs ys Ms w ∧ hs.length = fs.length ∧ fs.length ≤ 2 ∧ T ≤ N * 16384 ∧ mk ≤ N * 6000000 ∧ Ms.length ≤ N * 6
theorem Shf.holds {κ : Nat → Nat} {B s : Nat} {mk tot : Int} {fs : List (Value × List Tk)} {fv hv kv wv : Value} {hs xs ys : List Value} {Ms : List (List Tk)} {w : World} (h : Shf κ B s mk tot fs fv hv kv wv hs xs ys Ms w) (hh : hs.length = fs.length) : Calls Try.prog 13 #[.pointer (some ⟨s, 0, none⟩)] w fun e w' => e = .returned (.bool true) ∧ Below w.heap.size w w' := by
  obtain ⟨fa, fc, hfv⟩ := h.fr.own.form
  obtain ⟨ha, hc, hhv⟩ := h.hr.own.form
  obtain ⟨ka, kc, hkv⟩ := h.kr.own.form
  obtain ⟨wa, wc, hwv⟩ := h.wr.own.form
  rw [List.length_map] at hfv
  rw [hh] at hhv
  rw [h.xl] at hkv
  rw [h.yl] at hwv
  have sb := h.sb
  rw [hfv, hhv, hkv, hwv] at sb
  have hb := h.bd
  have fO := h.fr.own
  have hO := h.hr.own
  have kO := h.kr.own
  have wO := h.wr.own
  rw [hfv] at fO
  rw [hhv] at hO
  rw [hkv] at kO
  rw [hwv] at wO
  refine Holds_any s Ms.length kc wc fs.length fc hc ka wa fa ha mk tot _ (fun i => (fs.map (·.2)).getD i []) w (by omega) (by omega) sb (fun j hj => ?_) (prl kO wO h.xl h.yl rfl h.kk)
  obtain ⟨g, rfl, hg, e1, _⟩ := fO.at (by simp) j (by simpa using hj)
  obtain ⟨g2, rfl, hg2, e2, _⟩ := hO.at hh.symm j (by omega)
  obtain ⟨a1, c1, hv1⟩ := (h.fl j hj).1.own.form
  have hl := (h.fl j hj).2
  obtain ⟨a2, c2, f2, _, n2, _, r2⟩ := h.hk j hj (by omega)
  rw [List.getElem_map, hv1] at e1
  rw [f2] at e2
  have e : (fs.map (·.2)).getD j [] = fs[j].2 := by rw [List.getD_eq_getElem?_getD, List.getElem?_map, List.getElem?_eq_getElem hj]; rfl
  have hO1 := (h.fl j hj).1.own
  rw [hv1] at hO1
  exact ⟨g, g2, a1, a2, _, c1, c2, rfl, rfl, hg, hg2, e1, e2, by show ((fs.map (·.2)).getD j []).length = _; rw [e], by omega, by show TkR w a1 ((fs.map (·.2)).getD j []); rw [e]; exact hO1.rd rfl, by show TkR w a2 ((fs.map (·.2)).getD j []); rw [e]; exact r2⟩
theorem Shf.untouched {κ : Nat → Nat} {B s : Nat} {mk tot : Int} {fs : List (Value × List Tk)} {fv hv kv wv : Value} {hs xs ys : List Value} {Ms : List (List Tk)} {w : World} (h : Shf κ B s mk tot fs fv hv kv wv hs xs ys Ms w) (hh : hs.length = fs.length) : Calls Try.prog 20 #[.pointer (some ⟨s, 0, none⟩)] w fun e w' => (∃ v, e = .returned v) ∧ Below w.heap.size w w' := by
  obtain ⟨fa, fc, hfv⟩ := h.fr.own.form
  obtain ⟨ha, hc, hhv⟩ := h.hr.own.form
  rw [List.length_map] at hfv
  rw [hh] at hhv
  have sb := h.sb
  rw [hfv, hhv] at sb
  have hb := h.bd
  have fO := h.fr.own
  have hO := h.hr.own
  rw [hfv] at fO
  rw [hhv] at hO
  refine untouched_any s fs.length fc hc fa ha mk tot kv wv (fun i => (fs.map (·.2)).getD i []) w (by omega) sb (fun j hj => ?_)
  obtain ⟨g, rfl, hg, e1, _⟩ := fO.at (by simp) j (by simpa using hj)
  obtain ⟨g2, rfl, hg2, e2, _⟩ := hO.at hh.symm j (by omega)
  obtain ⟨a1, c1, hv1⟩ := (h.fl j hj).1.own.form
  have hl := (h.fl j hj).2
  obtain ⟨a2, c2, f2, _, n2, _, r2⟩ := h.hk j hj (by omega)
  rw [List.getElem_map, hv1] at e1
  rw [f2] at e2
  have e : (fs.map (·.2)).getD j [] = fs[j].2 := by rw [List.getD_eq_getElem?_getD, List.getElem?_map, List.getElem?_eq_getElem hj]; rfl
  have hO1 := (h.fl j hj).1.own
  rw [hv1] at hO1
  exact ⟨g, g2, a1, a2, _, c1, c2, rfl, rfl, hg, hg2, e1, e2, by show ((fs.map (·.2)).getD j []).length = _; rw [e], by omega, by show TkR w a1 ((fs.map (·.2)).getD j []); rw [e]; exact hO1.rd rfl, by show TkR w a2 ((fs.map (·.2)).getD j []); rw [e]; exact r2⟩
theorem Fra.of {κ κ' : Nat → Nat} {w w' : World} (N : Nat → Prop) (h : Frw κ κ' w w') (he : Ext κ κ' w.heap.size) : Fra κ κ' N w w' := ⟨h.but, he, fun g hg hk => .inl (h.old g hg hk)⟩
/-- what Own leaves -/
def OwnF (κ : Nat → Nat) (B s N : Nat) (v : Value) (w w' : World) : Prop := ∃ κ', SH κ' B s (N + 1) w' ∧ But (fun g => κ g ≠ 0 ∨ v.ownBlock = some g) w w' ∧ ∀ g, g < w.heap.size → κ' g ≠ 0 → κ g ≠ 0 ∨ v.ownBlock = some g
/-- the calls behind the copy -/
def OwnE (κ : Nat → Nat) (B s N : Nat) (v : Value) (w w5 : World) : Prop := ∃ (m : Nat) (fa : Option Addr) (fc : Nat), w5.cell? ⟨s, 3, none⟩ = some (.slice fa m fc) ∧ m ≤ 3 ∧ (m < 3 → Calls Try.prog 13 #[.pointer (some ⟨s, 0, none⟩)] w5 fun e w' => e = .returned (.bool true) ∧ OwnF κ B s N v w w') ∧ (m = 3 → Calls Try.prog 20 #[.pointer (some ⟨s, 0, none⟩)] w5 fun e w6 => (∃ x, e = .returned x) ∧ Calls Try.prog 21 #[.pointer (some ⟨s, 0, none⟩)] w6 fun e w7 => (∃ x, e = .returned x) ∧ Calls Try.prog 13 #[.pointer (some ⟨s, 0, none⟩)] w7 fun e w' => e = .returned (.bool true) ∧ OwnF κ B s N v w w')
/-- Own's chain -/
def OwnC (κ : Nat → Nat) (B s N : Nat) (a : Option Addr) (n c : Nat) (w : World) : Prop := ∃ (mk : Int) (T : Nat) (fv hv kv wv fv' : Value) (w2 : World) (fa : Option Addr) (fm fc : Nat), w.heap[s]? = some (.cells #[.int .i64 mk, .int .i64 (T : Int), .bool false, fv, hv, kv, wv] 36 (0, 0)) ∧ T ≤ 900000 ∧
  (Builtin.append_ #[34, 34] 34 #[fv, .slice (some ⟨w.heap.size, 0, none⟩) 1 1]).run Try.prog ((w.setCell ⟨s, 1, none⟩ (.int .i64 ((T : Int) + (n : Int)))).alloc (.cells #[.slice a n c] 23)) = .ok fv' w2 ∧ fv' = .slice fa fm fc ∧ w2.heap[s]? = some (.cells #[.int .i64 mk, .int .i64 ((T : Int) + (n : Int)), .bool false, fv, hv, kv, wv] 36 (0, 0)) ∧ (w2.setCell ⟨s, 3, none⟩ fv').drew.cell? ⟨s, 4, none⟩ = some hv ∧
  Calls Try.prog 19 #[.slice a n c] (w2.setCell ⟨s, 3, none⟩ fv').drew fun e w3 => ∃ a1 c1, e = .returned (.slice a1 n c1) ∧ w3.cell? ⟨s, 4, none⟩ = some hv ∧ (w3.alloc (.cells #[.slice a1 n c1] 23)).cell? ⟨s, 4, none⟩ = some hv ∧
    ∃ hv' w4 ha hm hc, (Builtin.append_ #[34, 34] 34 #[hv, .slice (some ⟨w3.heap.size, 0, none⟩) 1 1]).run Try.prog (w3.alloc (.cells #[.slice a1 n c1] 23)) = .ok hv' w4 ∧ hv' = .slice ha hm hc ∧ w4.cell? ⟨s, 4, none⟩ = some hv ∧ w4.frozen? ⟨s, 4, none⟩ = false ∧ OwnE κ B s N (.slice a n c) w (w4.setCell ⟨s, 4, none⟩ hv')
theorem ownC_any {κ : Nat → Nat} {B s N : Nat} {w : World} (hS : SH κ B s N w) (hN : N ≤ 20) {a : Option Addr} {c : Nat} {L : List Tk} (hO : OwT B w (.slice a L.length c) L) (h0 : ∀ g, (Value.slice a L.length c).ownBlock = some g → κ g = 0) (hL : L.length ≤ 16384) : OwnC κ B s N a L.length c w := by
  obtain ⟨mk, T, fs, fv, hv, kv, wv, hs, xs, ys, Ms, h, hh, hf, hT, hmk, hMs⟩ := hS
  obtain ⟨fv', w2, hr2, ⟨fa, fc, hfv'⟩, sb2, κ1, h1, f1, hO1⟩ := h.fresh (.slice a L.length c) L hO h0 hL hf (tot' := ((T + L.length : Nat) : Int)) (by omega)
  refine ⟨mk, T, fv, hv, kv, wv, fv', w2, fa, fs.length + 1, fc, h.sb, by omega, by rw [show (T : Int) + (L.length : Int) = ((T + L.length : Nat) : Int) by omega]; exact hr2, hfv', by rw [show (T : Int) + (L.length : Int) = ((T + L.length : Nat) : Int) by omega]; exact sb2, shelf_cell (u := w2.setCell ⟨s, 3, none⟩ fv') h1.sb rfl, ?_⟩
  obtain ⟨W2, hW2⟩ : ∃ W2, W2 = (w2.setCell ⟨s, 3, none⟩ fv').drew := ⟨_, rfl⟩
  have hd := below_drew (w2.setCell ⟨s, 3, none⟩ fv').heap.size (w2.setCell ⟨s, 3, none⟩ fv')
  rw [← hW2] at hd ⊢
  have h1d := h1.next hd
  have hO1d : OwT B W2 (.slice a L.length c) L := own_keep hO1 fun g hg => hd.block g (own_blk hO1 hg).2.1
  refine (CopyTokens_any _ L W2 hO1d (by omega)).mono ?_
  rintro e w3 ⟨v1, rfl, hO3, b3⟩
  have h3 := h1d.next b3
  have z3 := b3.size
  have hO3B : OwT B w3 v1 L := hO3.mono (by have := h1d.bw; omega)
  have hk3 : ∀ g, v1.ownBlock = some g → κ1 g = 0 := fun g hg => by
    have h9 := (own_blk hO3 hg).1
    by_cases q : κ1 g = 0
    · exact q
    · have := (h1d.cut g q).2; omega
  have hlen : hs.length < (fs ++ [(Value.slice a L.length c, L)]).length := by simp [hh]
  have hat : (fs ++ [(Value.slice a L.length c, L)])[hs.length].2 = L := by simp [hh]
  obtain ⟨hv', w4, hr4, ⟨ha, hc, hhv'⟩, sb4, κ2, h2, f2⟩ := h3.held v1 hlen (by rw [hat]; exact hO3B) hk3
  obtain ⟨a1, c1, rfl⟩ := hO3.form
  refine ⟨a1, c1, rfl, shelf_cell h3.sb rfl, shelf_cell (((below1 w3 _).block s h3.lt).trans h3.sb) rfl, hv', w4, ha, hs.length + 1, hc, hr4, hhv', shelf_cell sb4 rfl, by simp [World.frozen?, sb4], ?_⟩
  obtain ⟨w5, hw5⟩ : ∃ w5, w5 = w4.setCell ⟨s, 4, none⟩ hv' := ⟨_, rfl⟩
  rw [← hw5] at h2 f2 ⊢
  have hz1 := f1.but.size
  have hzd := hd.size
  have hx2 : ∀ g, g < w.heap.size → κ2 g ≠ 0 → κ g ≠ 0 ∨ (Value.slice a L.length c).ownBlock = some g := fun g hg hk => by
    rcases f2.new g (by omega) hk with q | q
    · exact f1.new g hg q
    · have := (own_blk hO3 q).1; omega
  have but2 : But (fun g => κ g ≠ 0 ∨ (Value.slice a L.length c).ownBlock = some g) w w5 := by
    refine ⟨(f2.but.os.trans b3.os).trans (hd.os.trans f1.but.os), (f2.but.tape.trans b3.tape).trans (hd.tape.trans f1.but.tape), (f2.but.output.trans b3.output).trans (hd.output.trans f1.but.output), by have := f2.but.size; omega, fun g hg hx => ?_⟩
    have hk1 : κ1 g = 0 := by
      by_cases q : κ1 g = 0
      · exact q
      · exact absurd (f1.new g hg q) hx
    rw [f2.but.block g (by omega) (by simpa using hk1), b3.block g (by omega), hd.block g (by omega), f1.but.block g hg (fun q => hx (.inl q))]
  have hcell : w5.cell? ⟨s, 3, none⟩ = some fv' := shelf_cell h2.sb rfl
  rw [hfv'] at hcell
  refine ⟨fs.length + 1, fa, fc, hcell, by omega, fun hlt => ?_, fun heq => ?_⟩
  · refine (h2.holds (by simp [hh])).mono ?_
    rintro e w' ⟨rfl, b⟩
    have bz := but2.size
    refine ⟨rfl, κ2, ⟨mk, T + L.length, _, fv', hv', kv, wv, _, xs, ys, Ms, h2.next b, by simp [hh], by simp; omega, by omega, by omega, by omega⟩, but2.trans (But.of_below b |>.mono (fun _ _ h => h)) , hx2⟩
  · refine (h2.untouched (by simp [hh])).mono ?_
    rintro e w6 ⟨he, b6⟩
    refine ⟨he, ?_⟩
    have h6 := h2.next b6
    refine (write_any h6 (by omega) (by omega)).mono ?_
    rintro e w7 ⟨he7, κ7, kv7, wv7, xs7, ys7, Ms7, mk7, h7, f7, hm7, hM7⟩
    refine ⟨he7, ?_⟩
    refine (h7.holds rfl).mono ?_
    rintro e w8 ⟨rfl, b8⟩
    have z6 := b6.size
    have z7 := f7.but.size
    have bz := but2.size
    refine ⟨rfl, κ7, ⟨mk7, T + L.length, [], _, _, kv7, wv7, [], xs7, ys7, Ms7, h7.next b8, rfl, by simp, by omega, by omega, by omega⟩, ?_, fun g hg hk => hx2 g hg (f7.old g (by omega) hk)⟩
    refine ⟨(b8.os.trans f7.but.os).trans (b6.os.trans but2.os), (b8.tape.trans f7.but.tape).trans (b6.tape.trans but2.tape), (b8.output.trans f7.but.output).trans (b6.output.trans but2.output), by have := b8.size; omega, fun g hg hx => ?_⟩
    have hk2 : κ2 g = 0 := by
      by_cases q : κ2 g = 0
      · exact q
      · exact absurd (hx2 g hg q) hx
    rw [b8.block g (by omega), f7.but.block g (by omega) (by simpa using hk2), b6.block g (by omega), but2.block g hg hx]

end Go.Proofs.Ytoifmiloaefanaa
