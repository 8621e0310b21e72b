import Derived.Test.YtddddfankeepkaaGreatDoorF01
import Derived.Maps.AppendAt
import Derived.Laws.OwnMore
import Derived.Lib.AppendZeros
import Derived.OwnWalk
namespace Go.Proofs.YtddddfankeepkaaGreatDoor
open Go.RowKit
theorem info32 : (Tryz.prog.info? 78).map (fun i => (i.zero, i.size, i.bytes)) = some (some (.agg #[.int .i64 0, .int .i64 0]), 2, 16) := by kernel_rfl
theorem info30 : (Tryz.prog.info? 38).map (fun i => (i.zero, i.size, i.bytes)) = some (some (.agg #[.string ByteArray.empty, .int .i64 0, .int .i64 0, .int .i64 0, .int .i64 0, .bool false, .slice none 0 0]), 7, 80) := by kernel_rfl
/-! ### rows of cells -/
theorem own_blk {B : Nat} {e : TypeId} {n m : Nat} {w : World} {v : Value} {xs : List Value} (h : w.ownsRow B e n v m xs) {g : Nat} (hg : v.ownBlock = some g) : B ≤ g ∧ g < w.heap.size ∧ ∃ cur, w.heap[g]? = some (.cells cur e (0, 0)) := by
 rcases h.2 with ⟨rfl, _⟩ | ⟨g', cap, cur, rfl, hb, hh, _⟩
 ·simp [Value.ownBlock] at hg
 ·simp [Value.ownBlock] at hg
  subst hg
  exact ⟨hb, (Array.getElem?_eq_some_iff.1 hh).1, cur, hh⟩
theorem own_keep {B : Nat} {e : TypeId} {n m : Nat} {w w' : World} {v : Value} {xs : List Value} (h : w.ownsRow B e n v m xs) (hk : ∀ g, v.ownBlock = some g → w'.heap[g]? = w.heap[g]?) : w'.ownsRow B e n v m xs := by
 obtain ⟨h1, h2⟩ := h
 refine ⟨h1, ?_⟩
 rcases h2 with ⟨e, q⟩ | ⟨g', cap, cur, e, hb, hh, r⟩
 ·exact .inl ⟨e, q⟩
 ·exact .inr ⟨g', cap, cur, e, hb, (hk g' (by rw [e]; rfl)).trans hh, r⟩
theorem own_mono {B B' : Nat} {e : TypeId} {n m : Nat} {w : World} {v : Value} {xs : List Value} (h : w.ownsRow B e n v m xs) (hb : B' ≤ B) : w.ownsRow B' e n v m xs := by
 obtain ⟨h1, h2⟩ := h
 refine ⟨h1, ?_⟩
 rcases h2 with q | ⟨g', cap, cur, e, hbg, r⟩
 ·exact .inl q
 ·exact .inr ⟨g', cap, cur, e, by omega, r⟩
theorem own_next {B : Nat} {e : TypeId} {n m : Nat} {w w' : World} {v : Value} {xs : List Value} (h : w.ownsRow B e n v m xs) (hb : Below w.heap.size w w') : w'.ownsRow B e n v m xs := own_keep h fun _ hg => hb.block _ (own_blk h hg).2.1
theorem own_form {B : Nat} {e : TypeId} {n m : Nat} {w : World} {v : Value} {xs : List Value} (h : w.ownsRow B e n v m xs) : (v = .slice none 0 0 ∧ m = 0) ∨ ∃ g c, v = .slice (some ⟨g, 0, none⟩) m c ∧ v.ownBlock = some g := by
 rcases h.2 with ⟨e, q⟩ | ⟨g', cap, cur, e, hb, hh, r⟩
 ·exact .inl ⟨e, q⟩
 ·exact .inr ⟨g', cap, e, by rw [e]; rfl⟩
/-! ### ranges -/
def flatR : List Rg → List Value
 | [] => []
 | r :: l => .int .i64 r.f :: .int .i64 r.t :: flatR l
theorem flatR_len : ∀ rs : List Rg, (flatR rs).length = rs.length * 2
 | [] => rfl
 | r :: l => by simp [flatR, flatR_len l]; omega
theorem flatR_at : ∀ (rs : List Rg) (j : Nat) (hj : j < rs.length), (flatR rs)[j * 2]? = some (.int .i64 rs[j].f) ∧ (flatR rs)[j * 2 + 1]? = some (.int .i64 rs[j].t)
 | [], _, h => by simp at h
 | r :: l, 0, _ => by simp [flatR]
 | r :: l, j + 1, h => by
  have ih := flatR_at l j (by simpa using h)
  rw [show (j + 1) * 2 = j * 2 + 2 by omega]
  simpa [flatR] using ih
theorem flatR_app : ∀ (a b : List Rg), flatR (a ++ b) = flatR a ++ flatR b
 | [], b => rfl
 | r :: l, b => by simp [flatR, flatR_app l b]
theorem flatR_one : ∀ (rs : List Rg), ∀ v ∈ flatR rs, v.oneCell' = true
 | [], v, h => by cases h
 | r :: l, v, h => by
  simp only [flatR, List.mem_cons] at h
  rcases h with rfl | rfl | h
  ·rfl
  ·rfl
  ·exact flatR_one l v h
def OwR (B : Nat) (w : World) (v : Value) (rs : List Rg) : Prop := w.ownsRow B 78 2 v rs.length (flatR rs)
theorem OwR.rd {B : Nat} {w : World} {v : Value} {rs : List Rg} (h : OwR B w v rs) : ∃ a c, v = .slice a rs.length c ∧ RdR w.heap.size w a rs ∧ (a = none → c = 0) := by
 rcases own_form h with ⟨rfl, hn⟩ | ⟨g, c, rfl, hg⟩
 ·exact ⟨none, 0, by rw [hn], .inl (List.eq_nil_of_length_eq_zero hn), fun _ => rfl⟩
 ·refine ⟨_, c, rfl, .inr ⟨g, 0, rfl, (own_blk h hg).2.1, fun j hj => ?_⟩, fun h => by cases h⟩
  have k := World.ownsRow.cells h hg
  have k1 := k (j * 2) _ (flatR_at rs j hj).1
  have k2 := k (j * 2 + 1) _ (flatR_at rs j hj).2
  rw [Addr.add_lit] at k1 k2
  exact ⟨k1, by simpa [Nat.add_assoc] using k2⟩
theorem rdr_src {w : World} {b off : Nat} {rs : List Rg} (hc : ∀ (j : Nat) (hj : j < rs.length), w.cell? ⟨b, off + j * 2, none⟩ = some (.int .i64 rs[j].f) ∧ w.cell? ⟨b, off + j * 2 + 1, none⟩ = some (.int .i64 rs[j].t)) : ∀ j v, (flatR rs)[j]? = some v → w.cell? ((⟨b, off, none⟩ : Addr).add j) = some v := by
 intro j v hv
 have hj : j < (flatR rs).length := (List.getElem?_eq_some_iff.1 hv).1
 rw [flatR_len] at hj
 have h1 := flatR_at rs (j / 2) (by omega)
 have h2 := hc (j / 2) (by omega)
 rw [Addr.add_lit]
 rcases (show j % 2 = 0 ∨ j % 2 = 1 by omega) with e | e
 ·have e2 : j = j / 2 * 2 := by omega
  rw [← e2] at h1
  rw [h1.1] at hv
  rw [← hv, ← h2.1]
  congr 2
  omega
 ·have e2 : j / 2 * 2 + 1 = j := by omega
  rw [e2] at h1
  rw [h1.2] at hv
  rw [← hv, ← h2.2]
  congr 2
  omega
/-! ### volumes -/
def cells7 (v : PV) (u : Value) : List Value := [.string v.nm, .int .i64 v.id, .int .i64 v.sz, .int .i64 v.og, .int .i64 v.kd, .bool v.pt, u]
def flatV : List PV → List Value → List Value
 | o :: os, v :: vs => cells7 o v ++ flatV os vs
 | _, _ => []
theorem flatV_app : ∀ (os : List PV) (vs : List Value) (o : PV) (v : Value), vs.length = os.length → flatV (os ++ [o]) (vs ++ [v]) = flatV os vs ++ cells7 o v
 | [], [], o, v, _ => by simp [flatV]
 | [], _ :: _, _, _, h => by simp at h
 | _ :: _, [], _, _, h => by simp at h
 | p :: os, x :: vs, o, v, h => by
  have ih := flatV_app os vs o v (by simpa using h)
  simp only [List.cons_append, flatV, ih, List.append_assoc]
theorem flatV_len : ∀ (os : List PV) (vs : List Value), vs.length = os.length → (flatV os vs).length = os.length * 7
 | [], [], _ => rfl
 | [], _ :: _, h => by simp at h
 | _ :: _, [], h => by simp at h
 | p :: os, x :: vs, h => by
  have ih := flatV_len os vs (by simpa using h)
  simp [flatV, cells7, ih]
  omega
theorem flatV_at : ∀ (os : List PV) (vs : List Value) (hl : vs.length = os.length) (t : Nat) (ht : t < os.length) (i : Nat), i < 7 → (flatV os vs)[t * 7 + i]? = (cells7 os[t] (vs[t]'(by omega)))[i]?
 | [], _, _, t, ht, _, _ => by simp at ht
 | _ :: _, [], h, _, _, _, _ => by simp at h
 | p :: os, x :: vs, h, 0, _, i, hi => by
  simp only [flatV, Nat.zero_mul, Nat.zero_add, List.getElem_cons_zero]
  rw [List.getElem?_append_left (by simpa [cells7] using hi)]
 | p :: os, x :: vs, h, t + 1, ht, i, hi => by
  have ih := flatV_at os vs (by simpa using h) t (by simpa using ht) i hi
  simp only [flatV, List.getElem_cons_succ]
  rw [List.getElem?_append_right (by simp [cells7]; omega), show (t + 1) * 7 + i - (cells7 p x).length = t * 7 + i by simp [cells7]; omega]
  exact ih
structure OwV (B : Nat) (w : World) (v : Value) (os : List PV) (us : List Value) : Prop where
 len : us.length = os.length
 row : w.ownsRow B 38 7 v os.length (flatV os us)
 dat : ∀ i (h : i < os.length), OwR B w (us[i]'(by omega)) os[i].mp
theorem OwV.next {B : Nat} {w w' : World} {v : Value} {os : List PV} {us : List Value} (h : OwV B w v os us) (hb : Below w.heap.size w w') : OwV B w' v os us :=
 ⟨h.len, own_next h.row hb, fun i hi => own_next (h.dat i hi) hb⟩
theorem OwV.rd {B : Nat} {w : World} {v : Value} {os : List PV} {us : List Value} (h : OwV B w v os us) : ∃ a c, v = .slice a os.length c ∧ RdV w.heap.size w a os ∧ (a = none → c = 0) := by
 rcases own_form h.row with ⟨rfl, hn⟩ | ⟨g, c, rfl, hg⟩
 ·exact ⟨none, 0, by rw [hn], .inl (List.eq_nil_of_length_eq_zero hn), fun _ => rfl⟩
 ·refine ⟨_, c, rfl, .inr ⟨g, 0, rfl, (own_blk h.row hg).2.1, fun j hj => ?_⟩, fun h => by cases h⟩
  obtain ⟨a', c', e, hR, hn⟩ := (h.dat j hj).rd
  have k := World.ownsRow.cells h.row hg
  have kk : ∀ i, i < 7 → ∀ u, (cells7 os[j] (us[j]'(by have := h.len; omega)))[i]? = some u → w.cell? ⟨g, 0 + j * 7 + i, none⟩ = some u := fun i hi u hu => by
   have := k (j * 7 + i) u (by rw [flatV_at os us h.len j hj i hi]; exact hu)
   rw [Addr.add_lit] at this
   simpa [Nat.add_assoc] using this
  rw [e] at kk
  exact ⟨a', c', ⟨kk 0 (by omega) _ rfl, kk 1 (by omega) _ rfl, kk 2 (by omega) _ rfl, kk 3 (by omega) _ rfl, kk 4 (by omega) _ rfl, kk 5 (by omega) _ rfl, kk 6 (by omega) _ rfl⟩, hR, hn⟩
theorem OwV.push {B : Nat} {w : World} {v : Value} {os : List PV} {us : List Value} (ty : TypeId) (h : OwV B w v os us) (o : PV) (a : Option Addr) (c : Nat) (hd : OwR B w (.slice a o.mp.length c) o.mp) {g : Nat} (hg : w.heap[g]? = some (.cells (cells7 o (.slice a o.mp.length c)).toArray 38 (0, 0))) (hl : os.length ≤ 16777216) (hw : B ≤ w.heap.size) :
  ∃ v' w', (Builtin.append_ #[22, 22] ty #[v, .slice (some ⟨g, 0, none⟩) 1 1]).run Tryz.prog w = .ok v' w' ∧ OwV B w' v' (os ++ [o]) (us ++ [.slice a o.mp.length c]) ∧ Below B w w' := by
 obtain ⟨i0, hi, hz0, hz1, hz2⟩ := info_parts info30
 obtain ⟨v', w', hr, h2, h3, _, h5⟩ := run_append_own_at (P := Tryz.prog) w B 22 ty 38 i0 _ 7 80 Tryz.underlying22 hi hz0 hz1 hz2 rfl (by decide) v os.length (flatV os us) h.row ⟨g, 0, none⟩ 1 1 (cells7 o (.slice a o.mp.length c)) rfl (fun j u hu => by
  rw [Addr.add_lit, Nat.zero_add]
  simp only [World.cell?, hg]
  simpa using hu) (fun u hu => by simp only [cells7, List.mem_cons, List.not_mem_nil, or_false] at hu; rcases hu with rfl | rfl | rfl | rfl | rfl | rfl | rfl <;> rfl) (by unfold maxLen; omega) (by omega) hw
 have keep : ∀ {u : Value} {rs : List Rg}, OwR B w u rs → OwR B w' u rs := fun {u rs} hu => own_keep hu fun x hx => h3.block x (own_blk hu hx).2.1 (fun e => by
  obtain ⟨_, _, c1, h1⟩ := own_blk h.row e.symm
  obtain ⟨_, _, c2, h2⟩ := own_blk hu hx
  rw [h1] at h2
  simp at h2)
 refine ⟨v', w', hr, ⟨by simp [h.len], ?_, fun i hi => ?_⟩, h3.os, h3.tape, h3.output, h3.size, fun k hk => h3.block k (by omega) (fun e => by have := (own_blk h.row e.symm).1; omega)⟩
 ·rw [flatV_app os us o _ h.len, List.length_append]
  exact h2
 ·by_cases he : i < os.length
  ·simp only [List.getElem_append_left he]
   rw [List.getElem_append_left (by have := h.len; omega)]
   exact keep (h.dat i he)
  ·simp only [List.length_append, List.length_cons, List.length_nil] at hi
   have e : i = os.length := by omega
   subst e
   have e2 : (us ++ [Value.slice a o.mp.length c])[os.length]'(by simp [h.len]) = .slice a o.mp.length c := by
    rw [List.getElem_append_right (by rw [h.len]; exact Nat.le_refl _)]
    simp
   simp only [List.getElem_append_right (Nat.le_refl _), Nat.sub_self, List.getElem_cons_zero]
   rw [e2]
   exact keep hd
theorem app_rg {B B' : Nat} {w : World} {v : Value} {zs ys : List Rg} (ty : TypeId) (ho : OwR B w v zs) {a : Option Addr} {c : Nat} (hR : RdR B' w a ys) (hn : a = none → c = 0) (hm : ys.length ≤ 16777216) (hz : zs.length ≤ 16777216) (hw : B ≤ w.heap.size) :
  ∃ v' w', (Builtin.append_ #[36, 36] ty #[v, .slice a ys.length c]).run Tryz.prog w = .ok v' w' ∧ OwR B w' v' (zs ++ ys) ∧ Below B w w' := by
 obtain ⟨i0, hi, hz0, hz1, hz2⟩ := info_parts info32
 cases a with
 | none =>
  obtain rfl : ys = [] := by
   rcases hR with h | ⟨_, _, h, _⟩
   ·exact h
   ·cases h
  rw [hn rfl]
  exact ⟨v, w, run_append_owned_none w B 36 ty 78 i0 2 Tryz.underlying36 hi _ _ _ ho, by rw [List.append_nil]; exact ho, Below.refl _ _⟩
 | some ad =>
  obtain ⟨v', w', hr, h2, h3, _, h5⟩ := run_append_own_at (P := Tryz.prog) w B 36 ty 78 i0 _ 2 16 Tryz.underlying36 hi hz0 hz1 hz2 rfl (by decide) v zs.length (flatR zs) ho ad ys.length c (flatR ys) (by rw [flatR_len]) (fun j u hu => by
   rcases hR with h | ⟨b, off, e, _, hc⟩
   ·subst h; simp [flatR] at hu
   ·cases e
    exact rdr_src hc j u hu) (flatR_one _) (by unfold maxLen; omega) (by omega) hw
  refine ⟨v', w', hr, ?_, h3.os, h3.tape, h3.output, h3.size, fun k hk => h3.block k (by omega) (fun e => by have := (own_blk ho e.symm).1; omega)⟩
  unfold OwR
  rw [flatR_app, List.length_append]
  exact h2
end Go.Proofs.YtddddfankeepkaaGreatDoor
namespace Go.Proofs.YtddddfankeepkaaGreatDoor
open Go.RowKit
theorem results_row1 {P : Program} {fn : Func} {p : Tmp} {ty : TypeId} (h : fn.results = #[.cell p ty]) (tmps : Array Value) (w : World) (g : Nat) (t : TypeId) (cs : Array Value) (fr : Nat × Nat) (d : TypeDesc)
  (hp : tmps.getD p undef = .pointer (some ⟨g, 0, none⟩)) (hb : w.heap[g]? = some (.cells cs t fr)) (hu : P.underlying ty = some d) (hd : (match d with | .struct _ | .array _ _ => true | _ => false) = true) (hs : (P.info? ty).map (·.size) = some cs.size) : (results fn tmps).run P w = .ok (.agg cs) w := by
 have hp' := hp
 simp only [Array.getD_eq_getD_getElem?] at hp'
 simp only [results, h]
 simp [hp', asAddr, run_loadVar_row w g t ty cs fr d hb hu hd hs]
set_option maxRecDepth 100000 in
set_option maxHeartbeats 1000000 in
theorem CopyRanges_any (a : Option Addr) (c : Nat) (rs : List Rg) (w : World) (h : RdR w.heap.size w a rs) (ha : a = none → c = 0) (hn : rs.length ≤ 16777216) :
  Calls Tryz.prog 77 #[.slice a rs.length c] w fun e w' => ∃ v, e = .returned v ∧ OwR w.heap.size w' v rs ∧ Below w.heap.size w w' := by
 have ow0 : OwR w.heap.size (w.alloc (.cells #[] 78)) (.slice (some ⟨w.heap.size, 0, none⟩) 0 0) [] := ⟨rfl, .inr ⟨w.heap.size, 0, #[], rfl, Nat.le_refl _, heap_new _ _, Nat.le_refl _, Nat.zero_le _, rfl, rfl⟩⟩
 have b0 : Below w.heap.size w (w.alloc (.cells #[] 78)) := below1 _ _
 obtain ⟨v', w', hr, ho, hg⟩ := app_rg 36 ow0 (h.below b0) ha hn (by simp) (by simp)
 have HO := hid ho
 have HB := hid (b0.trans hg)
 clear ow0 b0 h ha ho hg
 generalize rs.length = n at *
 go_enter Tryz.func77, Tryz.ntmps77
 go_wp2_with (at_builtin; refine Lib.wpList_append_run _ rfl _ _ _ _ rfl _ _ rfl rfl _ _ hr ?_)
 go_ret
 exact ⟨v', rfl, by simpa using HO.out, HB.out⟩
def VoB (w : World) (R : Nat) (o : PV) (v : Value) : Prop := w.heap[R]? = some (.cells (cells7 o v).toArray 38 (0, 0))
theorem VoB.lt {w : World} {R : Nat} {o : PV} {v : Value} (h : VoB w R o v) : R < w.heap.size := (Array.getElem?_eq_some_iff.1 h).1
theorem VoB.keep {w w' : World} {R : Nat} {o : PV} {v : Value} (h : VoB w R o v) (hw : w'.heap[R]? = w.heap[R]?) : VoB w' R o v := by unfold VoB at *; rw [hw]; exact h
theorem VoB.cs {w : World} {R : Nat} {o : PV} {v : Value} (h : VoB w R o v) : (w.cell? ⟨R, 0, none⟩ = some (.string o.nm) ∧ w.cell? ⟨R, 1, none⟩ = some (.int .i64 o.id) ∧ w.cell? ⟨R, 2, none⟩ = some (.int .i64 o.sz) ∧ w.cell? ⟨R, 3, none⟩ = some (.int .i64 o.og) ∧ w.cell? ⟨R, 4, none⟩ = some (.int .i64 o.kd) ∧ w.cell? ⟨R, 5, none⟩ = some (.bool o.pt) ∧ w.cell? ⟨R, 6, none⟩ = some v) ∧ ∀ i, w.frozen? ⟨R, i, none⟩ = false := by
 unfold VoB cells7 at h
 simp [World.cell?, World.frozen?, h]
def put7 (w : World) (R : Nat) (o : PV) (v : Value) : World := ((((((w.setCell ⟨R, 0, none⟩ (.string o.nm)).setCell ⟨R, 1, none⟩ (.int .i64 o.id)).setCell ⟨R, 2, none⟩ (.int .i64 o.sz)).setCell ⟨R, 3, none⟩ (.int .i64 o.og)).setCell ⟨R, 4, none⟩ (.int .i64 o.kd)).setCell ⟨R, 5, none⟩ (.bool o.pt)).setCell ⟨R, 6, none⟩ v
theorem VoB.put7 {w : World} {R : Nat} {o o' : PV} {v v' : Value} (h : VoB w R o v) : VoB (put7 w R o' v') R o' v' := by
 unfold VoB Go.Proofs.YtddddfankeepkaaGreatDoor.put7 at *
 simp only [World.setCell, Array.getElem?_modify, if_true]
 rw [h]
 simp [cells7]
theorem but_put7 (w : World) (R : Nat) (o : PV) (v : Value) : But (fun x => x = R) w (put7 w R o v) := by
 unfold put7
 exact ((((((((But.refl (fun x => x = R) w).setCell (p := ⟨R, 0, none⟩) rfl _).setCell (p := ⟨R, 1, none⟩) rfl _).setCell (p := ⟨R, 2, none⟩) rfl _).setCell (p := ⟨R, 3, none⟩) rfl _).setCell (p := ⟨R, 4, none⟩) rfl _).setCell (p := ⟨R, 5, none⟩) rfl _).setCell (p := ⟨R, 6, none⟩) rfl _)
def PV0 : PV := ⟨⟨#[]⟩, 0, 0, 0, 0, false, []⟩
set_option maxRecDepth 100000 in
set_option maxHeartbeats 4000000 in
theorem CopyVolume_any (o : PV) (a : Option Addr) (c : Nat) (w : World) (h : RdR w.heap.size w a o.mp) (ha : a = none → c = 0) (hn : o.mp.length ≤ 16777216) :
  Calls Tryz.prog 33 #[volA o a c] w fun e w' => ∃ a' c', e = .returned (volA o a' c') ∧ OwR w.heap.size w' (.slice a' o.mp.length c') o.mp ∧ Below w.heap.size w w' := by
 obtain ⟨R, hR⟩ : ∃ R, R = w.heap.size := ⟨_, rfl⟩
 obtain ⟨W0, hW0⟩ : ∃ W0, W0 = (w.alloc (.cells #[.string o.nm, .int .i64 o.id, .int .i64 o.sz, .int .i64 o.og, .int .i64 o.kd, .bool o.pt, .slice a o.mp.length c] 38)).alloc (.cells #[.string ⟨#[]⟩, .int .i64 0, .int .i64 0, .int .i64 0, .int .i64 0, .bool false, .slice none 0 0] 38) := ⟨_, rfl⟩
 have b0 : Below w.heap.size w W0 := by rw [hW0]; exact two_below _ _ _
 have r0 : VoB W0 R o (.slice a o.mp.length c) := by
  unfold VoB
  rw [hW0, hR, Below.heap_alloc _ _ _ (by simp)]
  exact heap_new _ _
 have r1 : VoB W0 (R + 1) PV0 (.slice none 0 0) := by
  have := heap_new (w.alloc (.cells #[.string o.nm, .int .i64 o.id, .int .i64 o.sz, .int .i64 o.og, .int .i64 o.kd, .bool o.pt, .slice a o.mp.length c] 38)) (.cells #[.string ⟨#[]⟩, .int .i64 0, .int .i64 0, .int .i64 0, .int .i64 0, .bool false, .slice none 0 0] 38)
  rw [World.size_alloc, ← hR, ← hW0] at this
  exact this
 have HC : Hid (Calls Tryz.prog 77 #[.slice a o.mp.length c] W0 fun e w2 => ∃ va vn vc, e = .returned (.slice va vn vc) ∧ vn = o.mp.length ∧ (VoB w2 R o (.slice a o.mp.length c) ∧ VoB w2 (R + 1) PV0 (.slice none 0 0)) ∧ VoB (put7 (w2.setCell ⟨R, 6, none⟩ (.slice va vn vc)) (R + 1) o (.slice va vn vc)) (R + 1) o (.slice va vn vc) ∧ OwR w.heap.size (put7 (w2.setCell ⟨R, 6, none⟩ (.slice va vn vc)) (R + 1) o (.slice va vn vc)) (.slice va vn vc) o.mp ∧ Below w.heap.size w (put7 (w2.setCell ⟨R, 6, none⟩ (.slice va vn vc)) (R + 1) o (.slice va vn vc))) := by
  refine (CopyRanges_any a c o.mp W0 ((h.below b0).mono b0.size) ha hn).mono ?_
  rintro e w2 ⟨v, rfl, ho, hb⟩
  obtain ⟨va, vc, rfl, _⟩ := ho.rd
  have s0 : VoB w2 R o (.slice a o.mp.length c) := r0.keep (hb.block _ r0.lt)
  have s1 : VoB w2 (R + 1) PV0 (.slice none 0 0) := r1.keep (hb.block _ r1.lt)
  have e1 : But (fun x => x = R) w2 (w2.setCell ⟨R, 6, none⟩ (.slice va o.mp.length vc)) := (But.refl (fun x => x = R) w2).setCell (p := ⟨R, 6, none⟩) rfl _
  have s3 : VoB (w2.setCell ⟨R, 6, none⟩ (.slice va o.mp.length vc)) (R + 1) PV0 (.slice none 0 0) := s1.keep (e1.block _ s1.lt (by omega))
  have e2 := but_put7 (w2.setCell ⟨R, 6, none⟩ (.slice va o.mp.length vc)) (R + 1) o (.slice va o.mp.length vc)
  have hz := hb.size
  have z0 := r1.lt
  have zz := e1.size
  refine ⟨va, _, vc, rfl, rfl, ⟨s0, s1⟩, s3.put7, own_mono (own_keep ho fun g hg => ?_) b0.size, ?_⟩
  ·obtain ⟨q1, q2, _⟩ := own_blk ho hg
   exact (e2.block g (Nat.lt_of_lt_of_le q2 e1.size) (by omega)).trans (e1.block g q2 (by omega))
  ·exact ((b0.trans (hb.mono b0.size)).trans (e1.below (by omega) (fun x hx e => by omega))).trans (e2.below (by omega) (fun x hx e => by omega))
 have HW0 := hid hW0
 have HR := hid hR
 clear hW0 b0 r0 r1 h ha hn
 dsimp only [volA]
 generalize hml : o.mp.length = n at *
 have HL := hid hml
 clear hml
 go_enter Tryz.func33, Tryz.ntmps33
 go_wp2_with fail
 rw [← HW0.out]
 try rw [← HR.out]
 refine HC.out.mono ?_
 rintro e w2 ⟨va, vn, vc, rfl, hvn, ⟨s0, s3⟩, p1, p2, p3⟩
 have HP1 := hid p1
 have HP2 := hid p2
 have HP3 := hid p3
 have HV := hid hvn
 obtain ⟨⟨c0, c1, c2, c3, c4, c5, c6⟩, y0⟩ := s0.cs
 obtain ⟨⟨g0, g1, g2, g3, g4, g5, g6⟩, z0⟩ := s3.cs
 clear p1 p2 p3 s0 s3 HC HW0 hR hvn
 go_wp2_with fail
 have HFin : Hid (∀ x, x = put7 (w2.setCell ⟨R, 6, none⟩ (.slice va vn vc)) (R + 1) o (.slice va vn vc) → VoB x (R + 1) o (.slice va vn vc) ∧ OwR w.heap.size x (.slice va vn vc) o.mp ∧ Below w.heap.size w x) := by
  rintro x rfl
  exact ⟨HP1.out, HP2.out, HP3.out⟩
 have hvn := HV.out
 subst hvn
 exact bodyPost_ret (results_row1 rfl _ _ (R + 1) 38 _ (0, 0) _ rfl (HFin.out _ rfl).1 Tryz.underlying38 rfl (by kernel_rfl)) rfl ⟨va, vc, rfl, (HFin.out _ rfl).2⟩
end Go.Proofs.YtddddfankeepkaaGreatDoor
