/-
  Package cache: hold, of a block that is not held.
-/
import Derived.Test.YtfadnmdmohabmaaCab
namespace Go.Proofs.Ytfadnmdmohabmaa
open Go.RowKit Go.ChangeMaps

set_option maxRecDepth 100000 in
set_option maxHeartbeats 4000000 in
theorem hold_fits {X : Nat → Prop} {w : World} {c p room r mp n : Nat} {hi mi : Int} {es : List Nat} {f : Nat → En} {Z : Nat → List Int} (h : Ca X w c p room r mp n hi mi es f Z) (hrm : es.length < room) (hln : n < maxLen) {x : Int} (hx : ∀ e ∈ es, (f e).at_ ≠ x) {g cap : Nat} {zs : List Int} (hO : Own w g 512 cap zs) (hb : Pl.isB zs) (hX : X g) (hat : (Lit.int .i64 x).wf = true) :
    Calls Try.prog 34 #[.pointer (some ⟨c, 0, none⟩), .int .i64 x, .slice (some ⟨g, 0, none⟩) 512 cap] w fun q w' => q = .returned (.tuple #[]) ∧ (∃ f' Z', Ca (fun k => X k ∨ k = w.heap.size) w' c p room r mp (n + 1) hi mi (es ++ [w.heap.size]) f' Z' ∧ (f' w.heap.size).at_ = x ∧ (∀ y, y ≠ w.heap.size → (f' y).at_ = (f y).at_) ∧ Z' w.heap.size = zs ∧ ∀ y, y ≠ w.heap.size → Z' y = Z y) ∧ But X w w' ∧ Own w' g 512 cap zs := by
  obtain ⟨D, hm, hD⟩ := h.map
  have hkey : keyOf Try.prog 3 (.int .i64 x) = some (.int .i64 x) := Maps.keyOf_int_mk Try.underlying3 hat
  have hhas := hD.miss x hx
  obtain ⟨x0, x1, x2, x3, x4, x5⟩ := h.blk.cells
  have hcl := h.blk.lt
  have hml := ownsMap_lt hm
  have hsz := hD.size
  have hrb : (f r).bf ∈ r :: es := h.ring.bfr
  have nen : w.heap.size ∉ r :: es := fun hy => Nat.lt_irrefl _ (h.ens _ hy).lt
  have H := hid (And.intro h (And.intro hm (And.intro hD (And.intro hO hb))))
  have HA := hid (alone_any x w)
  clear h hD hO hb
  go_enter Try.func34, Try.ntmps34
  go_wp2_with (at_lookup; refine wpList_lookup_own_ok _ rfl _ _ 55 rfl 3 54 law3 Try.underlying55 ptrElem (zero45 _) .nil [] rfl mp n D rfl hm _ _ rfl hkey ?_; intro v ps hv; clear hv; rw [hhas])
  refine Calls.mono HA.out ?_
  rintro q w1 ⟨rfl, e1, b1, s1⟩
  have hm1 := ownsMap_keep hm (b1.block mp hml)
  have d3 : w1.cell? ⟨c, 3, none⟩ = some (.map (some mp)) := (World.cell?_of_block (w := w) (b1.block c hcl)).trans x3
  obtain ⟨w2, hrun, m2, t2⟩ := World.ownsMap.store (w := w1) hm1 law3 Try.underlying55 hln hkey (val := .pointer (some ⟨w.heap.size, 0, none⟩)) (d := .held w.heap.size) (ps := []) rfl
  obtain ⟨w3, hw3⟩ : ∃ w3, w3 = w2.setCell ⟨w.heap.size, 1, none⟩ (.slice (some ⟨g, 0, none⟩) 512 cap) := ⟨_, rfl⟩
  obtain ⟨g1, g2, g3, g4, g5⟩ := H.out.1.grow hx H.out.2.2.2.1 H.out.2.2.2.2 hX hm H.out.2.2.1 e1 b1 s1 m2 t2 hw3
  have y1 := g3.cells.2.1
  have y1f := g3.frozen 1
  obtain ⟨u0, u1, u2, u3, u4, u5⟩ := g4.cells
  have hua : unl (newE f w.heap.size x (.slice (some ⟨g, 0, none⟩) 512 cap)) w.heap.size = newE f w.heap.size x (.slice (some ⟨g, 0, none⟩) 512 cap) := unl_alone (by rw [newE_at]) (by rw [newE_at])
  have hrn : r ≠ w.heap.size := fun q => nen (by rw [← q]; simp)
  have HML := hid (makeLatest_any g1 (c := c) g2.cells.2.2.1 (fun hv => g2.ne_ent (g1 c hv) rfl) g2.lt (e := w.heap.size) (by simp) (by rw [newE_at]; simp) (by rw [newE_at]; simp) (by simp) (by
    rw [hua, newE_ne f _ _ hrn]
    rcases List.mem_cons.1 hrb with q | q
    · rw [q]; simp
    · exact List.mem_cons_of_mem _ (List.mem_append_left _ q)))
  have G := hid g5
  clear g5 g1 g2 g3 g4 m2 t2 e1 b1 hua hrb hsz hx hm hhas HA hm1
  generalize hE : w.heap.size = E at *
  go_wp2_with fail
  rw [← hw3]
  refine Calls.mono HML.out ?_
  rintro q w4 ⟨rfl, h4, b4⟩
  obtain ⟨bx, ox, f', Z', ca, hf', z1, z2⟩ := G.out w4 h4 b4
  obtain ⟨D4, hm4, hD4⟩ := ca.map
  obtain ⟨y0, y1, y2, y3, y4, y5⟩ := ca.blk.cells
  have hsz := hD4.size
  have hlen := fun ty => World.ownsMap.len hm4 Try.underlying55 ty
  have hlend := fun ty => World.ownsMap.len (ownsMap_keep (w' := w4.drew) hm4 rfl) Try.underlying55 ty
  rw [hsz] at hlen hlend
  have hat' : ∀ y, (f' y).at_ = (newE f E x (.slice (some ⟨g, 0, none⟩) 512 cap) y).at_ := fun y => by rw [hf']; exact (lnk_same _ _ _ _).1
  have hll : (es ++ [E]).length = es.length + 1 := by simp
  rw [hll] at hlen hlend
  have hnr : ¬ ((room : Int) < ((es.length + 1 : Nat) : Int)) := by omega
  generalize es.length + 1 = ln at *
  have FIN : Hid ((∃ f' Z', Ca (fun k => X k ∨ k = E) w4 c p room r mp (n + 1) hi mi (es ++ [E]) f' Z' ∧ (f' E).at_ = x ∧ (∀ y, y ≠ E → (f' y).at_ = (f y).at_) ∧ Z' E = zs ∧ ∀ y, y ≠ E → Z' y = Z y) ∧ But X w w4 ∧ Own w4 g 512 cap zs) := ⟨⟨f', Z', ca, by rw [hat', newE_at], fun y hy => by rw [hat', newE_ne f _ _ hy], z1, z2⟩, bx, ox⟩
  clear HML h4 b4 ca hm4 hD4 G x0 x1 x2 x3 x4 x5 u0 u1 u2 u3 u4 u5 H
  go_wp2_with fail
  go_region
  all_goals go_wp2
  all_goals
    go_end0
    subst hE
    obtain ⟨f', Z', q1, q2⟩ := FIN.out.1
    exact ⟨rfl, ⟨f', Z', q1.drew, q2⟩, FIN.out.2.1.drew, FIN.out.2.2⟩

set_option maxRecDepth 100000 in
set_option maxHeartbeats 4000000 in
theorem hold_full {X : Nat → Prop} {w : World} {c p room r mp n : Nat} {hi mi : Int} {a : Nat} {es : List Nat} {f : Nat → En} {Z : Nat → List Int} (h : Ca X w c p room r mp n hi mi (a :: es) f Z) (hrm : (a :: es).length = room) (hwa : (Lit.int .i64 (f a).at_).wf = true) (hln : n < maxLen) {x : Int} (hx : ∀ e ∈ (a :: es), (f e).at_ ≠ x) {g cap : Nat} {zs : List Int} (hO : Own w g 512 cap zs) (hb : Pl.isB zs) (hX : X g) (hat : (Lit.int .i64 x).wf = true) :
    Calls Try.prog 34 #[.pointer (some ⟨c, 0, none⟩), .int .i64 x, .slice (some ⟨g, 0, none⟩) 512 cap] w fun q w' => q = .returned (.tuple #[]) ∧ (∃ f' Z', Ca (fun k => X k ∨ k = w.heap.size) w' c p room r mp (n + 1) hi mi (es ++ [w.heap.size]) f' Z' ∧ (f' w.heap.size).at_ = x ∧ (∀ y, y ≠ w.heap.size → (f' y).at_ = (f y).at_) ∧ Z' w.heap.size = zs ∧ ∀ y, y ≠ w.heap.size → Z' y = Z y) ∧ But X w w' ∧ Own w' g 512 cap zs := by
  obtain ⟨D, hm, hD⟩ := h.map
  have hkey : keyOf Try.prog 3 (.int .i64 x) = some (.int .i64 x) := Maps.keyOf_int_mk Try.underlying3 hat
  have hhas := hD.miss x hx
  obtain ⟨x0, x1, x2, x3, x4, x5⟩ := h.blk.cells
  have hcl := h.blk.lt
  have hml := ownsMap_lt hm
  have hsz := hD.size
  have hrb : (f r).bf ∈ r :: (a :: es) := h.ring.bfr
  have nen : w.heap.size ∉ r :: (a :: es) := fun hy => Nat.lt_irrefl _ (h.ens _ hy).lt
  have H := hid (And.intro h (And.intro hm (And.intro hD (And.intro hO hb))))
  have HA := hid (alone_any x w)
  clear h hD hO hb
  go_enter Try.func34, Try.ntmps34
  go_wp2_with (at_lookup; refine wpList_lookup_own_ok _ rfl _ _ 55 rfl 3 54 law3 Try.underlying55 ptrElem (zero45 _) .nil [] rfl mp n D rfl hm _ _ rfl hkey ?_; intro v ps hv; clear hv; rw [hhas])
  refine Calls.mono HA.out ?_
  rintro q w1 ⟨rfl, e1, b1, s1⟩
  have hm1 := ownsMap_keep hm (b1.block mp hml)
  have d3 : w1.cell? ⟨c, 3, none⟩ = some (.map (some mp)) := (World.cell?_of_block (w := w) (b1.block c hcl)).trans x3
  obtain ⟨w2, hrun, m2, t2⟩ := World.ownsMap.store (w := w1) hm1 law3 Try.underlying55 hln hkey (val := .pointer (some ⟨w.heap.size, 0, none⟩)) (d := .held w.heap.size) (ps := []) rfl
  obtain ⟨w3, hw3⟩ : ∃ w3, w3 = w2.setCell ⟨w.heap.size, 1, none⟩ (.slice (some ⟨g, 0, none⟩) 512 cap) := ⟨_, rfl⟩
  obtain ⟨g1, g2, g3, g4, g5⟩ := H.out.1.grow hx H.out.2.2.2.1 H.out.2.2.2.2 hX hm H.out.2.2.1 e1 b1 s1 m2 t2 hw3
  have y1 := g3.cells.2.1
  have y1f := g3.frozen 1
  obtain ⟨u0, u1, u2, u3, u4, u5⟩ := g4.cells
  have hua : unl (newE f w.heap.size x (.slice (some ⟨g, 0, none⟩) 512 cap)) w.heap.size = newE f w.heap.size x (.slice (some ⟨g, 0, none⟩) 512 cap) := unl_alone (by rw [newE_at]) (by rw [newE_at])
  have hrn : r ≠ w.heap.size := fun q => nen (by rw [← q]; simp)
  have HML := hid (makeLatest_any g1 (c := c) g2.cells.2.2.1 (fun hv => g2.ne_ent (g1 c hv) rfl) g2.lt (e := w.heap.size) (by simp) (by rw [newE_at]; simp) (by rw [newE_at]; simp) (by simp) (by
    rw [hua, newE_ne f _ _ hrn]
    rcases List.mem_cons.1 hrb with q | q
    · rw [q]; simp
    · exact List.mem_cons_of_mem _ (List.mem_append_left _ q)))
  have G := hid g5
  clear g5 g1 g2 g3 g4 m2 t2 e1 b1 hua hrb hsz hx hm hhas HA hm1
  generalize hE : w.heap.size = E at *
  go_wp2_with fail
  rw [← hw3]
  refine Calls.mono HML.out ?_
  rintro q w4 ⟨rfl, h4, b4⟩
  obtain ⟨bx, ox, f', Z', ca, hf', z1, z2⟩ := G.out w4 h4 b4
  obtain ⟨D4, hm4, hD4⟩ := ca.map
  obtain ⟨y0, y1, y2, y3, y4, y5⟩ := ca.blk.cells
  have hsz := hD4.size
  have hlen := fun ty => World.ownsMap.len hm4 Try.underlying55 ty
  have hlend := fun ty => World.ownsMap.len (ownsMap_keep (w' := w4.drew) hm4 rfl) Try.underlying55 ty
  rw [hsz] at hlen hlend
  have hat' : ∀ y, (f' y).at_ = (newE f E x (.slice (some ⟨g, 0, none⟩) 512 cap) y).at_ := fun y => by rw [hf']; exact (lnk_same _ _ _ _).1
  have hll : ((a :: es) ++ [E]).length = room + 1 := by simp at hrm ⊢; omega
  rw [hll] at hlen hlend
  have hnr : (room : Int) < ((room + 1 : Nat) : Int) := by omega
  have cb : Ca (fun k => X k ∨ k = E) w4 c p room r mp (n + 1) hi mi (a :: (es ++ [E])) f' Z' := ca
  have v3 := (cb.ens r (by simp)).cells.2.2.2
  rw [cb.ring.first] at v3
  have hna : a ≠ E := fun q => nen (by rw [← q]; simp)
  have hwa' : (Lit.int .i64 (f' a).at_).wf = true := by rw [hat', newE_ne f _ _ hna]; exact hwa
  have HL := hid (letGo_first cb.drew hwa')
  have FIN : Hid (∀ w5, Ca (fun k => X k ∨ k = E) w5 c p room r mp (n + 1) hi mi (es ++ [E]) (unl f' a) Z' → But (fun k => X k ∨ k = E) w4.drew w5 → (∀ g n cap zs, Own w4.drew g n cap zs → Own w5 g n cap zs) → (∃ f' Z', Ca (fun k => X k ∨ k = E) w5 c p room r mp (n + 1) hi mi (es ++ [E]) f' Z' ∧ (f' E).at_ = x ∧ (∀ y, y ≠ E → (f' y).at_ = (f y).at_) ∧ Z' E = zs ∧ ∀ y, y ≠ E → Z' y = Z y) ∧ But X w w5 ∧ Own w5 g 512 cap zs) := fun w5 c5 b5 o5 => ⟨⟨_, Z', c5, by rw [(unl_same _ _ _).1, hat', newE_at], fun y hy => by rw [(unl_same _ _ _).1, hat', newE_ne f _ _ hy], z1, z2⟩, bx.drew.comp b5 (fun k hk q => by
    rcases q with q | q
    · exact q
    · omega), o5 g 512 cap zs ox⟩
  generalize room + 1 = ln at *
  clear HML h4 b4 ca cb hm4 hD4 G x0 x1 x2 x3 x4 x5 u0 u1 u2 u3 u4 u5 H bx ox
  go_wp2_with fail
  go_region
  all_goals go_wp2_with fail
  all_goals
    refine Calls.mono HL.out ?_
    rintro q w5 ⟨rfl, h5, b5, o5⟩
    go_wp2
    go_end0
    subst hE
    exact ⟨rfl, FIN.out w5 h5 b5 o5⟩

end Go.Proofs.Ytfadnmdmohabmaa
