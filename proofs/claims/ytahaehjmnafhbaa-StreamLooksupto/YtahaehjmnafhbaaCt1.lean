/-
  stream: what stands between a stream's first bytes and its sum, by its contract.
-/
import Derived.Test.YtahaehjmnafhbaaCt0
namespace Go.Proofs.Ytahaehjmnafhbaa
open Go.RowKit

theorem But.of_grown {w w' : World} {r : Option Nat} (h : w.grownBy w' r) : But (fun x => some x = r) w w' := ⟨h.os, h.tape, h.output, h.size, h.block⟩
theorem row_keep {w w' : World} {base e size n : Nat} {v : Value} {xs : List Value} (h : w.ownsRow base e size v n xs) (hk : ∀ g, v.ownBlock = some g → w'.heap[g]? = w.heap[g]?) : w'.ownsRow base e size v n xs := by
  obtain ⟨h1, h2⟩ := h
  refine ⟨h1, ?_⟩
  rcases h2 with h2 | ⟨g, cap, cur, hv, hg, hh, r⟩
  · exact .inl h2
  · refine .inr ⟨g, cap, cur, hv, hg, ?_, r⟩
    rw [hk g (by rw [hv]; rfl)]
    exact hh
theorem row_slice {w : World} {base e size n : Nat} {v : Value} {xs : List Value} (h : w.ownsRow base e size v n xs) : ∃ a c, v = .slice a n c := by
  rcases h.2 with ⟨h1, h2⟩ | ⟨g, cap, cur, h1, _⟩
  · subst h2; exact ⟨none, 0, h1⟩
  · exact ⟨_, cap, h1⟩
theorem row_lt {w : World} {base e size n : Nat} {v : Value} {xs : List Value} (h : w.ownsRow base e size v n xs) {g : Nat} (hg : v.ownBlock = some g) : base ≤ g ∧ g < w.heap.size := World.ownsRow.lt h g hg
/-- a content's block -/
def Cnb (w : World) (cb : Nat) (S1 S2 : ByteArray) (sz sm : Int) (rv : Value) : Prop := w.heap[cb]? = some (.cells #[.string S1, .int .i64 sz, .string S2, .int .u32 sm, rv] 39 (0, 0))
theorem Cnb.lt {w : World} {cb : Nat} {S1 S2 : ByteArray} {sz sm : Int} {rv : Value} (h : Cnb w cb S1 S2 sz sm rv) : cb < w.heap.size := (Array.getElem?_eq_some_iff.1 h).1
theorem Cnb.cells {w : World} {cb : Nat} {S1 S2 : ByteArray} {sz sm : Int} {rv : Value} (h : Cnb w cb S1 S2 sz sm rv) : w.cell? ⟨cb, 0, none⟩ = some (.string S1) ∧ w.cell? ⟨cb, 1, none⟩ = some (.int .i64 sz) ∧ w.cell? ⟨cb, 2, none⟩ = some (.string S2) ∧ w.cell? ⟨cb, 3, none⟩ = some (.int .u32 sm) ∧ w.cell? ⟨cb, 4, none⟩ = some rv := by
  unfold Cnb at h
  exact ⟨by simp [World.cell?, h], by simp [World.cell?, h], by simp [World.cell?, h], by simp [World.cell?, h], by simp [World.cell?, h]⟩
theorem Cnb.fz {w : World} {cb : Nat} {S1 S2 : ByteArray} {sz sm : Int} {rv : Value} (h : Cnb w cb S1 S2 sz sm rv) (t : Nat) : w.frozen? ⟨cb, t, none⟩ = false := by unfold Cnb at h; simp [World.frozen?, h]
theorem Cnb.keep {w w' : World} {cb : Nat} {S1 S2 : ByteArray} {sz sm : Int} {rv : Value} (h : Cnb w cb S1 S2 sz sm rv) (hk : w'.heap[cb]? = w.heap[cb]?) : Cnb w' cb S1 S2 sz sm rv := by unfold Cnb at *; rw [hk]; exact h
theorem Cnb.set {w : World} {cb : Nat} {S1 S2 : ByteArray} {sz sm : Int} {rv : Value} (h : Cnb w cb S1 S2 sz sm rv) (u : Value) : Cnb (w.setCell ⟨cb, 4, none⟩ u) cb S1 S2 sz sm u := by
  unfold Cnb at *
  simp only [World.setCell, Array.getElem?_modify]
  rw [h]
  simp
/-- runs as values -/
def RunsV (vals : List Value) (l : List Rn) : Prop := vals.length = l.length ∧ ∀ (j : Nat) (v : Value) (r : Rn), vals[j]? = some v → l[j]? = some r → RunV v r
theorem RunsV.snoc {vals : List Value} {l : List Rn} (h : RunsV vals l) {v : Value} {r : Rn} (hr : RunV v r) : RunsV (vals ++ [v]) (l ++ [r]) := by
  refine ⟨by simp [h.1], fun j v' r' h1 h2 => ?_⟩
  by_cases hj : j < l.length
  · rw [List.getElem?_append_left (by rw [h.1]; exact hj)] at h1
    rw [List.getElem?_append_left hj] at h2
    exact h.2 j v' r' h1 h2
  · have : j = l.length := by
      have := (List.getElem?_eq_some_iff.1 h2).1
      simp at this; omega
    subst this
    rw [← h.1, List.getElem?_concat_length] at h1
    rw [List.getElem?_concat_length] at h2
    simp at h1 h2
    subst h1; subst h2
    exact hr
theorem RunV.iface {v : Value} {r : Rn} (h : RunV v r) : ∃ T x, v = .iface T x := by
  rcases h with ⟨_, _, _, _, rfl⟩ | ⟨_, rfl⟩ <;> exact ⟨_, _, rfl⟩

structure Lip (w : World) (B kk r0 cb ed : Nat) (h : Hd) (cn : Nat) (s0 : St) (q : Nat) (wt : World) : Prop where
  ex : ∃ l k t s rv vals, l.length = q ∧ TkS 73 wt kk s ∧ s.2 = false ∧ s.1.length ≤ s0.1.length ∧ Edg wt ed k t ∧ Cnb wt cb (strOfNums h.name) (strOfNums h.since) h.size h.sum rv ∧ wt.ownsRow B 58 1 rv q vals ∧ RunsV vals l ∧
    (∀ g, rv.ownBlock = some g → g ≠ kk ∧ g ≠ ed ∧ g ≠ cb ∧ g ≠ r0) ∧ runsP h.size (!decide (h.since = [])) cn 0 0 s0 = (runsP h.size (!decide (h.since = [])) (cn - q) k t s).bind fun b => some (l ++ b.1, b.2)
  zb : wt.heap[r0]? = some (.cells #[.string ⟨#[]⟩, .int .i64 0, .string ⟨#[]⟩, .int .u32 0, .slice none 0 0] 39 (0, 0))
  bl : Below B w wt
  sz : ed < wt.heap.size

def ConP (zs : List Int) (w : World) (e : Ending) (w' : World) : Prop :=
  Below w.heap.size w w' ∧ ((conP zs = none ∧ ∃ S1 sz S2 sm ra q rc, e = .returned (.tuple #[.agg #[.string S1, .int .i64 sz, .string S2, .int .u32 sm, .slice ra q rc], .bool false])) ∨
    ∃ h l ra rc vals, conP zs = some (h, l) ∧ e = .returned (.tuple #[cnt h (.slice ra l.length rc), .bool true]) ∧ w'.ownsRow w.heap.size 58 1 (.slice ra l.length rc) l.length vals ∧ RunsV vals l)

theorem oneP_len {sz : Int} {inc : Bool} {k t : Int} {s s' : St} {r : Rn} (h : oneP sz inc k t s = some (r, s')) : s'.1.length ≤ s.1.length ∧ (s.2 = false → s'.2 = false) := by
  have a : (rA pt s).2.1.length ≤ s.1.length := (pt_len (s := s) (m := 1)).2
  have b : (rB pt s).2.1.length ≤ (rA pt s).2.1.length := (pt_len (s := (rA pt s).2) (m := 4)).2
  have c : (rC pt s).2.1.length ≤ (rB pt s).2.1.length := (pt_len (s := (rB pt s).2) (m := 4)).2
  refine ⟨?_, fun hs => (oneP_some hs h).1⟩
  unfold oneP at h
  split at h
  · cases h
  split at h
  · split at h
    · cases h
    · simp only [Option.some.injEq, Prod.mk.injEq] at h
      obtain ⟨_, rfl⟩ := h
      have d : (rD s).2.1.length ≤ (rC pt s).2.1.length := pt_len.2
      omega
  · split at h
    · split at h
      · simp only [Option.some.injEq, Prod.mk.injEq] at h
        obtain ⟨_, rfl⟩ := h
        omega
      · cases h
    · cases h

set_option maxHeartbeats 2000000 in
/-- one round -/
theorem Lip.step {w : World} {B kk r0 cb ed : Nat} {h : Hd} {cn : Nat} {s0 : St} {q : Nat} {wt : World} (hL : Lip w B kk r0 cb ed h cn s0 q wt) (hq : q < cn) (hs0 : s0.1.length ≤ 16777216) (o1 : B = w.heap.size) (o2 : r0 = B) (o3 : kk = B + 1) (o4 : kk < cb) (o5 : cb < ed) (PO : Ending → World → Prop)
    (hno : runsP h.size (!decide (h.since = [])) cn 0 0 s0 = none → ∀ u, Below B w u → PO (.returned (.tuple #[.agg #[.string ⟨#[]⟩, .int .i64 0, .string ⟨#[]⟩, .int .u32 0, .slice none 0 0], .bool false])) u) :
    ∃ rv, (wt.cell? ⟨cb, 0, none⟩ = some (.string (strOfNums h.name)) ∧ wt.cell? ⟨cb, 1, none⟩ = some (.int .i64 h.size) ∧ wt.cell? ⟨cb, 2, none⟩ = some (.string (strOfNums h.since)) ∧ wt.cell? ⟨cb, 3, none⟩ = some (.int .u32 h.sum) ∧ wt.cell? ⟨cb, 4, none⟩ = some rv) ∧
      Calls Try.prog 29 #[.pointer (some ⟨kk, 0, none⟩), .agg #[.string (strOfNums h.name), .int .i64 h.size, .string (strOfNums h.since), .int .u32 h.sum, rv], .pointer (some ⟨ed, 0, none⟩)] wt fun e w9 => ∃ rv9 ok, e = .returned (.tuple #[rv9, .bool ok]) ∧
        (ok = false → w9.heap[r0]? = some (.cells #[.string ⟨#[]⟩, .int .i64 0, .string ⟨#[]⟩, .int .u32 0, .slice none 0 0] 39 (0, 0)) ∧ PO (.returned (.tuple #[.agg #[.string ⟨#[]⟩, .int .i64 0, .string ⟨#[]⟩, .int .u32 0, .slice none 0 0], .bool false])) (set5 w9 r0 (.string ⟨#[]⟩) (.int .i64 0) (.string ⟨#[]⟩) (.int .u32 0) (.slice none 0 0))) ∧
        (ok = true → B ≤ w9.heap.size ∧ ∃ vals w10 T9 x9, rv9 = .iface T9 x9 ∧ w10 = w9.alloc (.cells #[rv9] 58) ∧ w9.cell? ⟨cb, 4, none⟩ = some rv ∧ w10.ownsRow B 58 1 rv q vals ∧ ∀ w11 g cap, w11.ownsRow B 58 1 (.slice (some ⟨g, 0, none⟩) (q + 1) cap) (q + 1) (vals ++ [rv9]) → w10.grownBy w11 (Value.ownBlock rv) → (Value.ownBlock rv = some g ∨ g = w9.heap.size + 1) → w11.cell? ⟨cb, 4, none⟩ = some rv ∧ w11.frozen? ⟨cb, 4, none⟩ = false ∧ Lip w B kk r0 cb ed h cn s0 (q + 1) (w11.setCell ⟨cb, 4, none⟩ (.slice (some ⟨g, 0, none⟩) (q + 1) cap))) := by
  obtain ⟨⟨l, k, t, s, rv, vals, hl, hT, hs2, hsl, hE, hC, hrow, hV, hne, hrun⟩, hzb, hbl, hsz⟩ := hL
  obtain ⟨ra, rc, hrv⟩ := row_slice hrow
  refine ⟨rv, hC.cells, ?_⟩
  have hcall := run_any h ra q rc k t (by omega) hT hE (by omega)
  rw [← hrv] at hcall
  refine Calls.mono hcall ?_
  rintro e w9 ⟨hb9, hres⟩
  have hB9 : Below B w w9 := hbl.trans (hb9.below (by have := hbl.size; omega) (fun x hx => by omega))
  have hz9 := hb9.size
  have e1 : cn - q = (cn - (q + 1)) + 1 := by omega
  rcases hres with ⟨hnone, rv9, rfl⟩ | ⟨r, s', rv9, hsome, rfl, hRV, hT9, hE9⟩
  · refine ⟨rv9, false, rfl, fun _ => ⟨?_, ?_⟩, (fun q => by cases q)⟩
    · rw [hb9.block r0 (by omega) (by omega)]; exact hzb
    · refine hno ?_ _ (hB9.trans ((set5_but w9 r0 _ _ _ _ _).below (by have := hbl.size; omega) (fun x hx => by omega)))
      rw [hrun, e1]
      simp only [runsP, hnone, Option.bind_none]
  · refine ⟨rv9, true, rfl, (fun q => by cases q), fun _ => ⟨by have := hbl.size; omega, ?_⟩⟩
    obtain ⟨T9, x9, hif⟩ := hRV.iface
    obtain ⟨w10, hw10⟩ : ∃ w10, w10 = w9.alloc (.cells #[rv9] 58) := ⟨_, rfl⟩
    have b10 : Below w9.heap.size w9 w10 := by rw [hw10]; exact (Below.refl _ _).alloc (Nat.le_refl _) _
    have z10 : w10.heap.size = w9.heap.size + 1 := by rw [hw10]; simp
    have hlt : ∀ g, rv.ownBlock = some g → g < wt.heap.size := fun g hg => (row_lt hrow hg).2
    have hrow9 : w9.ownsRow B 58 1 rv q vals := row_keep hrow (fun g hg => hb9.block g (hlt g hg) (by have := hne g hg; omega))
    have hrow10 : w10.ownsRow B 58 1 rv q vals := row_keep hrow9 (fun g hg => b10.block g (by have := hlt g hg; omega))
    have hC9 : Cnb w9 cb (strOfNums h.name) (strOfNums h.since) h.size h.sum rv := hC.keep (hb9.block cb hC.lt (by omega))
    refine ⟨vals, w10, T9, x9, hif, hw10, hC9.cells.2.2.2.2, hrow10, fun w11 g cap hrow11 hg11 hlie => ?_⟩
    have hcb9 : cb < w9.heap.size := hC9.lt
    have hb10 : But (fun x => some x = rv.ownBlock) w10 w11 := But.of_grown hg11
    have hb911 : But (fun x => some x = rv.ownBlock) w9 w11 := (But.of_below b10).trans hb10
    have hncb : ¬ (some cb = rv.ownBlock) := fun q => (hne cb q.symm).2.2.1 rfl
    have hC11 : Cnb w11 cb (strOfNums h.name) (strOfNums h.since) h.size h.sum rv := hC9.keep (hb911.block cb hcb9 hncb)
    have hbc : But (fun x => x = cb) w11 (w11.setCell ⟨cb, 4, none⟩ (.slice (some ⟨g, 0, none⟩) (q + 1) cap)) := (But.refl (fun x => x = cb) w11).setCell (p := ⟨cb, 4, none⟩) rfl _
    have hbF : But (fun x => some x = rv.ownBlock ∨ x = cb) w9 (w11.setCell ⟨cb, 4, none⟩ (.slice (some ⟨g, 0, none⟩) (q + 1) cap)) := (hb911.mono (fun x _ q => .inl q)).trans (hbc.mono (fun x _ q => .inr q))
    have hown : ∀ x, some x = rv.ownBlock → B ≤ x ∧ x ≠ kk ∧ x ≠ ed ∧ x ≠ r0 := fun x hx => ⟨(row_lt hrow hx.symm).1, (hne x hx.symm).1, (hne x hx.symm).2.1, (hne x hx.symm).2.2.2⟩
    have hgne : g ≠ kk ∧ g ≠ ed ∧ g ≠ cb ∧ g ≠ r0 := by
      rcases hlie with q | q
      · exact hne g q
      · omega
    refine ⟨hC11.cells.2.2.2.2, hC11.fz 4, ⟨⟨l ++ [r], r.1, r.2.2, s', _, vals ++ [rv9], by simp [hl], ?_, (oneP_len hsome).2 hs2, by have := (oneP_len hsome).1; omega, ?_, hC11.set _, ?_, hV.snoc hRV, ?_, ?_⟩, ?_, ?_, ?_⟩⟩
    · exact hT9.but hbF (fun x hx q => by
        rcases q with q | q
        · have := hown x q; omega
        · omega)
    · exact hE9.but hbF (fun q => by
        rcases q with q | q
        · exact (hown ed q).2.2.1 rfl
        · omega)
    · exact row_keep hrow11 (fun g' hg' => by
        have : g = g' := by simpa [Value.ownBlock] using hg'
        subst this
        exact hbc.block g (row_lt hrow11 hg').2 hgne.2.2.1)
    · intro g' hg'
      have : g = g' := by simpa [Value.ownBlock] using hg'
      subst this
      exact hgne
    · rw [hrun, e1]
      simp only [runsP, hsome, Option.bind_some]
      cases runsP h.size (!decide (h.since = [])) (cn - (q + 1)) r.1 r.2.2 s' with
      | none => rfl
      | some b => simp
    · rw [hbF.block r0 (by omega) (fun q => by
        rcases q with q | q
        · exact (hown r0 q).2.2.2 rfl
        · omega), hb9.block r0 (by omega) (by omega)]
      exact hzb
    · exact hB9.trans (hbF.below (by have := hbl.size; omega) (fun x hx q => by
        rcases q with q | q
        · have := hown x q; omega
        · omega))
    · have := hbF.size; omega

end Go.Proofs.Ytahaehjmnafhbaa
