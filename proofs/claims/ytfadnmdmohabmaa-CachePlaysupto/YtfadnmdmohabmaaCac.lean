/-
  Package cache: hold, of any block.
-/
import Derived.Test.YtfadnmdmohabmaaCa4
namespace Go.Proofs.Ytfadnmdmohabmaa
open Go.RowKit Go.ChangeMaps

/-- a cache that holds l, the least lately used first -/
def Cst (X : Nat → Prop) (w : World) (c p room : Nat) (hi mi : Int) (l : List (Int × List Int)) : Prop :=
  ∃ r mp n es f Z, Ca X w c p room r mp n hi mi es f Z ∧ l = view es f Z ∧ es.length ≤ room ∧ 1 ≤ room ∧ room < 4611686018427387904 ∧ ∀ e ∈ es, (Lit.int .i64 (f e).at_).wf = true
theorem Cst.drew {X : Nat → Prop} {w : World} {c p room : Nat} {hi mi : Int} {l : List (Int × List Int)} (h : Cst X w c p room hi mi l) : Cst X w.drew c p room hi mi l := by
  obtain ⟨r, mp, n, es, f, Z, h1, h2⟩ := h
  exact ⟨r, mp, n, es, f, Z, h1.drew, h2⟩
theorem Cst.mono {X Y : Nat → Prop} {w : World} {c p room : Nat} {hi mi : Int} {l : List (Int × List Int)} (h : Cst X w c p room hi mi l) (hX : ∀ k, k < w.heap.size → X k → Y k) : Cst Y w c p room hi mi l := by
  obtain ⟨r, mp, n, es, f, Z, h1, h2⟩ := h
  exact ⟨r, mp, n, es, f, Z, h1.mono hX, h2⟩
theorem view_congr {es : List Nat} {f f' : Nat → En} {Z Z' : Nat → List Int} (h : ∀ e ∈ es, (f' e).at_ = (f e).at_ ∧ Z' e = Z e) : view es f' Z' = view es f Z := by
  unfold view
  exact List.map_congr_left (fun e he => by rw [(h e he).1, (h e he).2])
theorem view_app (A B : List Nat) (f : Nat → En) (Z : Nat → List Int) : view (A ++ B) f Z = view A f Z ++ view B f Z := by simp [view]
theorem view_none {es : List Nat} {f : Nat → En} {Z : Nat → List Int} {x : Int} (h : ∀ e ∈ es, (f e).at_ ≠ x) : (view es f Z).filter (fun q => q.1 ≠ x) = view es f Z := by
  rw [List.filter_eq_self]
  intro q hq
  unfold view at hq
  obtain ⟨e, he, rfl⟩ := List.mem_map.1 hq
  simpa using h e he
theorem view_len (es : List Nat) (f : Nat → En) (Z : Nat → List Int) : (view es f Z).length = es.length := by simp [view]
set_option maxHeartbeats 1000000 in
theorem hold_any {X : Nat → Prop} {w : World} {c p room : Nat} {hi mi : Int} {l : List (Int × List Int)} (h : Cst X w c p room hi mi l) {x : Int} {g cap : Nat} {zs : List Int} (hO : Own w g 512 cap zs) (hb : Pl.isB zs) (hX : X g) (hat : (Lit.int .i64 x).wf = true) :
    Calls Try.prog 34 #[.pointer (some ⟨c, 0, none⟩), .int .i64 x, .slice (some ⟨g, 0, none⟩) 512 cap] w fun q w' => q = .returned (.tuple #[]) ∧ Cst (fun k => X k ∨ (w.heap.size ≤ k ∧ k < w'.heap.size)) w' c p room hi mi (holdL room l x zs) ∧ But X w w' ∧ Own w' g 512 cap zs := by
  obtain ⟨r, mp, n, es, f, Z, h1, rfl, h3, h4, h5, h6⟩ := h
  by_cases hin : ∃ e ∈ es, (f e).at_ = x
  · obtain ⟨e, he, rfl⟩ := hin
    obtain ⟨A, B, rfl⟩ := List.append_of_mem he
    refine Calls.mono (hold_hit h1 h3 hO hb hX hat) ?_
    rintro q w' ⟨rfl, ⟨f', Z', q1, q2, q3, q4⟩, b, ow⟩
    obtain ⟨D, hm, hD⟩ := h1.map
    have hnd := (List.nodup_cons.1 h1.ring.1).2
    obtain ⟨n1, n2, n3⟩ := List.nodup_append.1 hnd
    have hA : ∀ y ∈ A, y ≠ e := fun y hy q => n3 y hy e (by simp) q
    have hB : ∀ y ∈ B, y ≠ e := fun y hy q => (List.nodup_cons.1 n2).1 (by rw [← q]; exact hy)
    have hA' : ∀ y ∈ A, (f y).at_ ≠ (f e).at_ := fun y hy q => hA y hy (hD.uniq (by simp [hy]) (by simp) q)
    have hB' : ∀ y ∈ B, (f y).at_ ≠ (f e).at_ := fun y hy q => hB y hy (hD.uniq (by simp [hy]) (by simp) q)
    refine ⟨rfl, ⟨r, mp, n, _, f', Z', q1.mono (fun k _ q => .inl q), ?_, by simp at h3 ⊢; omega, h4, h5, fun y hy => by rw [q2]; exact h6 y (by simp at hy ⊢; rcases hy with q | q | q <;> simp [q])⟩, b, ow⟩
    have e1 : view (A ++ B ++ [e]) f' Z' = view A f Z ++ view B f Z ++ [((f e).at_, zs)] := by
      rw [view_app, view_app, view_congr (es := A) (f := f) (Z := Z) (fun y hy => ⟨q2 y, q4 y (hA y hy)⟩), view_congr (es := B) (f := f) (Z := Z) (fun y hy => ⟨q2 y, q4 y (hB y hy)⟩)]
      simp [view, q2, q3]
    have e2 : (view (A ++ e :: B) f Z).filter (fun q => q.1 ≠ (f e).at_) = view A f Z ++ view B f Z := by
      have : view (A ++ e :: B) f Z = view A f Z ++ ((f e).at_, Z e) :: view B f Z := by simp [view]
      rw [this, List.filter_append, view_none hA']
      simp only [ne_eq, decide_not, List.filter_cons, decide_true, Bool.not_true, Bool.false_eq_true, if_false]
      have hf := view_none (Z := Z) hB'
      simp only [ne_eq, decide_not] at hf
      rw [hf]
    unfold holdL
    rw [e2, e1, if_neg]
    simp [view_len] at h3 ⊢
    omega
  · have hx : ∀ e ∈ es, (f e).at_ ≠ x := fun e he q => hin ⟨e, he, q⟩
    have hne : ∀ y ∈ es, y ≠ w.heap.size := fun y hy q => Nat.lt_irrefl _ (q ▸ (h1.ens y (by simp [hy])).lt)
    have h1 := h1.tight
    have hln : es.length < maxLen := by unfold maxLen; omega
    by_cases hf : es.length < room
    · refine Calls.mono (hold_fits h1 hf hln hx hO hb hX hat) ?_
      rintro q w' ⟨rfl, ⟨f', Z', q1, q2, q3, q4, q5⟩, b, ow⟩
      refine ⟨rfl, ⟨r, mp, _, _, f', Z', q1.mono (fun k hk q => ?_), ?_, by simp; omega, h4, h5, fun y hy => ?_⟩, b, ow⟩
      · rcases q with q | q
        · exact .inl q
        · exact .inr ⟨by omega, hk⟩
      · unfold holdL
        rw [view_none hx, if_neg (by simp [view_len]; omega), view_app, view_congr (es := es) (f := f) (Z := Z) (fun y hy => ⟨q3 y (hne y hy), q5 y (hne y hy)⟩)]
        simp [view, q2, q4]
      · rcases List.mem_append.1 hy with hy | hy
        · rw [q3 y (hne y hy)]; exact h6 y hy
        · simp at hy; rw [hy, q2]; exact hat
    · obtain ⟨a, t, rfl⟩ : ∃ a t, es = a :: t := by
        cases es with
        | nil => simp at hf; omega
        | cons a t => exact ⟨a, t, rfl⟩
      refine Calls.mono (hold_full h1 (by omega) (h6 a (by simp)) hln hx hO hb hX hat) ?_
      rintro q w' ⟨rfl, ⟨f', Z', q1, q2, q3, q4, q5⟩, b, ow⟩
      have hnt : ∀ y ∈ t, y ≠ w.heap.size := fun y hy => hne y (by simp [hy])
      refine ⟨rfl, ⟨r, mp, _, _, f', Z', q1.mono (fun k hk q => ?_), ?_, by simp at h3 ⊢; omega, h4, h5, fun y hy => ?_⟩, b, ow⟩
      · rcases q with q | q
        · exact .inl q
        · exact .inr ⟨by omega, hk⟩
      · unfold holdL
        rw [view_none hx, if_pos (by simp [view_len] at hf ⊢; omega), view_app, view_congr (es := t) (f := f) (Z := Z) (fun y hy => ⟨q3 y (hnt y hy), q5 y (hnt y hy)⟩)]
        simp [view, q2, q4]
      · rcases List.mem_append.1 hy with hy | hy
        · rw [q3 y (hnt y hy)]; exact h6 y (by simp [hy])
        · simp at hy; rw [hy, q2]; exact hat

end Go.Proofs.Ytfadnmdmohabmaa

/-
  Package cache: holdNothing, Forget, Counts.
-/
namespace Go.Proofs.Ytfadnmdmohabmaa
open Go.RowKit Go.ChangeMaps

def Cg (w : World) (c p room : Nat) (v2 v3 : Value) (hi mi : Int) : Prop := w.heap[c]? = some (.cells #[.pointer (some ⟨p, 0, none⟩), .int .i64 (room : Int), v2, v3, .int .i64 hi, .int .i64 mi] 57 (0, 0))
theorem Cg.lt {w : World} {c p room : Nat} {v2 v3 : Value} {hi mi : Int} (h : Cg w c p room v2 v3 hi mi) : c < w.heap.size := (Array.getElem?_eq_some_iff.1 h).1
theorem Cg.cell {w : World} {c p room : Nat} {v2 v3 : Value} {hi mi : Int} (h : Cg w c p room v2 v3 hi mi) (t : Nat) : w.cell? ⟨c, t, none⟩ = #[Value.pointer (some ⟨p, 0, none⟩), .int .i64 (room : Int), v2, v3, .int .i64 hi, .int .i64 mi][t]? := by
  unfold Cg at h
  simp [World.cell?, h]
theorem Cg.frozen {w : World} {c p room : Nat} {v2 v3 : Value} {hi mi : Int} (h : Cg w c p room v2 v3 hi mi) (t : Nat) : w.frozen? ⟨c, t, none⟩ = false := by
  unfold Cg at h
  simp [World.frozen?, h]
theorem Cg.set {w : World} {c p room : Nat} {v2 v3 : Value} {hi mi : Int} (h : Cg w c p room v2 v3 hi mi) (t : Nat) (v : Value) : (w.setCell ⟨c, t, none⟩ v).heap[c]? = some (.cells (#[.pointer (some ⟨p, 0, none⟩), .int .i64 (room : Int), v2, v3, .int .i64 hi, .int .i64 mi].setIfInBounds t v) 57 (0, 0)) := by
  unfold Cg at h
  simp only [World.setCell, Array.getElem?_modify]
  rw [h]
  simp
theorem ownsMap_new (w : World) : (w.alloc (.map #[] 0)).ownsMap Try.prog 3 ptrElem w.heap.size 0 (.map [] : DataW Nat) := World.ownsMap_made w Try.prog 3 ptrElem
set_option maxRecDepth 100000 in
set_option maxHeartbeats 1000000 in
theorem holdNothing_any {w : World} {c p room : Nat} {v2 v3 : Value} {hi mi : Int} (h : Cg w c p room v2 v3 hi mi) (hr : 1 ≤ room) (hr2 : room < 4611686018427387904) :
    Calls Try.prog 11 #[.pointer (some ⟨c, 0, none⟩)] w fun q w' => q = .returned (.tuple #[]) ∧ Cst (fun k => k = c ∨ w.heap.size ≤ k) w' c p room hi mi [] ∧ But (fun k => k = c) w w' := by
  have HA := hid (alone_any 0 w)
  have hcl := h.lt
  go_enter Try.func11, Try.ntmps11
  go_wp2_with fail
  refine Calls.mono HA.out ?_
  rintro q w1 ⟨rfl, e1, b1, s1⟩
  have g1 : Cg w1 c p room v2 v3 hi mi := (b1.block c hcl).trans h
  have c2 : w1.cell? ⟨c, 2, none⟩ = some v2 := g1.cell 2
  have f2 := g1.frozen 2
  have g2 : Cg (w1.setCell ⟨c, 2, none⟩ (.pointer (some ⟨w.heap.size, 0, none⟩))) c p room (.pointer (some ⟨w.heap.size, 0, none⟩)) v3 hi mi := by simpa [Cg] using g1.set 2 (.pointer (some ⟨w.heap.size, 0, none⟩))
  obtain ⟨w2, hw2⟩ : ∃ w2, w2 = w1.setCell ⟨c, 2, none⟩ (.pointer (some ⟨w.heap.size, 0, none⟩)) := ⟨_, rfl⟩
  rw [← hw2] at g2
  have b2 : But (fun k => k = c) w1 w2 := by rw [hw2]; exact (But.refl (fun y => y = c) w1).setCell (p := ⟨c, 2, none⟩) (show (fun y => y = c) c from rfl) _
  have z2 : w2.heap.size = w1.heap.size := by rw [hw2]; simp [World.setCell]
  obtain ⟨w3, hw3⟩ : ∃ w3, w3 = w2.setCell ⟨c, 3, none⟩ (.map (some (w.heap.size + 1))) := ⟨_, rfl⟩
  have g3 : Cab w3 c p room w.heap.size (w.heap.size + 1) hi mi := by rw [hw3]; simpa [Cab] using g2.set 3 (.map (some (w.heap.size + 1)))
  have b3 : But (fun k => k = c) w2 w3 := by rw [hw3]; exact (But.refl (fun y => y = c) w2).setCell (p := ⟨c, 3, none⟩) (show (fun y => y = c) c from rfl) _
  have z3 : w3.heap.size = w.heap.size + 1 := by rw [hw3]; simp [World.setCell]; omega
  obtain ⟨w4, hw4⟩ : ∃ w4, w4 = w3.alloc (.map #[] 0) := ⟨_, rfl⟩
  have m4 : w4.ownsMap Try.prog 3 ptrElem (w.heap.size + 1) 0 (.map [] : DataW Nat) := by rw [hw4, ← z3]; exact ownsMap_new w3
  have b4 : Below w3.heap.size w3 w4 := by rw [hw4]; exact (Below.refl _ _).alloc (Nat.le_refl _) _
  have g4 : Cab w4 c p room w.heap.size (w.heap.size + 1) hi mi := (b4.block c (by omega)).trans g3
  have e4 : EnB w4 w.heap.size ⟨0, .slice none 0 0, w.heap.size, w.heap.size⟩ := (b4.block w.heap.size (by omega)).trans ((b3.block w.heap.size (by omega) (by omega)).trans ((b2.block w.heap.size (by omega) (by omega)).trans e1))
  have FIN : Hid (Cst (fun k => k = c ∨ w.heap.size ≤ k) w4 c p room hi mi [] ∧ But (fun k => k = c) w w4) := by
    refine ⟨⟨w.heap.size, w.heap.size + 1, 0, [], fun _ => ⟨0, .slice none 0 0, w.heap.size, w.heap.size⟩, fun _ => [], ⟨g4, ?_, ⟨by simp, rfl, rfl, trivial⟩, ⟨.map [], m4, BM.nil _⟩, ?_, .inl rfl, .inr (by omega), ?_⟩, rfl, by simp, hr, hr2, ?_⟩, ((But.of_below b1).trans b2).trans (b3.trans (But.of_below b4))⟩
    · intro x hx
      simp at hx
      rw [hx]
      exact e4
    · intro e he
      cases he
    · intro x hx
      simp at hx
      exact .inr (by omega)
    · intro e he
      cases he
  have c3 : w2.cell? ⟨c, 3, none⟩ = some v3 := g2.cell 3
  have f3 := g2.frozen 3
  have hmm := @run_makeMap Try.prog
  rw [hw2] at c3 f3
  clear g1 g2 g3 g4 b1 b2 b3 b4 e1 e4 m4 z2 z3 HA h
  go_wp2
  go_end0
  rw [← hw2, ← hw3, ← hw4]
  exact ⟨rfl, FIN.out.1, FIN.out.2⟩

end Go.Proofs.Ytfadnmdmohabmaa

/-
  Package cache: New, Counts, Forget, Flush.
-/
namespace Go.Proofs.Ytfadnmdmohabmaa
open Go.RowKit Go.ChangeMaps

theorem Ca.keep {X : Nat → Prop} {w w' : World} {c p room r mp n : Nat} {hi mi : Int} {es : List Nat} {f : Nat → En} {Z : Nat → List Int} (h : Ca X w c p room r mp n hi mi es f Z) (hk : ∀ k, X k → k < w.heap.size → w'.heap[k]? = w.heap[k]?) : Ca X w' c p room r mp n hi mi es f Z := by
  obtain ⟨D, hm, hD⟩ := h.map
  refine ⟨(hk c h.xc h.blk.lt).trans h.blk, fun x hx => (hk x (h.xe x hx) (h.ens x hx).lt).trans (h.ens x hx), h.ring, ⟨D, ownsMap_keep hm (hk mp h.xm (ownsMap_lt hm)), hD⟩, fun e he => ?_, h.xc, h.xm, h.xe⟩
  obtain ⟨g, cap, q1, q2, q3, q4⟩ := h.dat e he
  exact ⟨g, cap, q1, q2.keep (hk g q4 q2.lt), q3, q4⟩
theorem Cst.keep {X : Nat → Prop} {w w' : World} {c p room : Nat} {hi mi : Int} {l : List (Int × List Int)} (h : Cst X w c p room hi mi l) (hk : ∀ k, X k → k < w.heap.size → w'.heap[k]? = w.heap[k]?) : Cst X w' c p room hi mi l := by
  obtain ⟨r, mp, n, es, f, Z, h1, h2⟩ := h
  exact ⟨r, mp, n, es, f, Z, h1.keep hk, h2⟩
theorem Cst.but {X Y : Nat → Prop} {w w' : World} {c p room : Nat} {hi mi : Int} {l : List (Int × List Int)} (h : Cst X w c p room hi mi l) (b : But Y w w') (hxy : ∀ k, X k → ¬ Y k) : Cst X w' c p room hi mi l := h.keep (fun k hx hk => b.block k hk (hxy k hx))
theorem Cst.cut {X : Nat → Prop} {w : World} {c p room : Nat} {hi mi : Int} {l : List (Int × List Int)} (h : Cst X w c p room hi mi l) : Cst (fun k => X k ∧ k < w.heap.size) w c p room hi mi l := h.mono (fun _ hk hx => ⟨hx, hk⟩)
theorem Cst.cg {X : Nat → Prop} {w : World} {c p room : Nat} {hi mi : Int} {l : List (Int × List Int)} (h : Cst X w c p room hi mi l) : ∃ v2 v3, Cg w c p room v2 v3 hi mi ∧ X c ∧ 1 ≤ room ∧ room < 4611686018427387904 := by
  obtain ⟨r, mp, n, es, f, Z, h1, _, _, h4, h5, _⟩ := h
  exact ⟨_, _, h1.blk, h1.xc, h4, h5⟩

theorem Counts_any {X : Nat → Prop} {w : World} {c p room : Nat} {hi mi : Int} {l : List (Int × List Int)} (h : Cst X w c p room hi mi l) :
    Calls Try.prog 14 #[.pointer (some ⟨c, 0, none⟩)] w fun q w' => q = .returned (.tuple #[.int .i64 hi, .int .i64 mi, .int .i64 0]) ∧ w' = w.drew := by
  obtain ⟨v2, v3, hg, _⟩ := h.cg
  have c4 : w.cell? ⟨c, 4, none⟩ = some (.int .i64 hi) := hg.cell 4
  have c5 : w.cell? ⟨c, 5, none⟩ = some (.int .i64 mi) := hg.cell 5
  clear h hg
  go_enter Try.func14, Try.ntmps14
  go_wp2
  go_region
  all_goals go_wp2
  all_goals
    go_ret3
    exact ⟨rfl, rfl⟩
theorem Forget_any {X : Nat → Prop} {w : World} {c p room : Nat} {hi mi : Int} {l : List (Int × List Int)} (h : Cst X w c p room hi mi l) :
    Calls Try.prog 18 #[.pointer (some ⟨c, 0, none⟩)] w fun q w' => q = .returned (.int .i64 0) ∧ Cst (fun k => k = c ∨ w.heap.size ≤ k) w' c p room hi mi [] ∧ But (fun k => k = c) w w' := by
  obtain ⟨v2, v3, hg, _, hr, hr2⟩ := h.cg
  have HN := hid (holdNothing_any hg hr hr2)
  clear h hg
  go_enter Try.func18, Try.ntmps18
  go_wp2_with fail
  refine Calls.mono HN.out ?_
  rintro q w1 ⟨rfl, h1, b1⟩
  have FIN := hid (And.intro h1 b1)
  clear h1 b1 HN
  go_wp2
  go_ret
  exact ⟨rfl, FIN.out.1, FIN.out.2⟩
theorem Flush_disk {w : World} {c p room : Nat} {v2 v3 : Value} {hi mi : Int} (h : Cg w c p room v2 v3 hi mi) {R : Int → World → Prop} (H : Calls Try.prog 36 #[.pointer (some ⟨p, 0, none⟩)] w fun e w' => ∃ x, e = .returned (.int .i64 x) ∧ R x w') :
    Calls Try.prog 17 #[.pointer (some ⟨c, 0, none⟩)] w fun e w' => ∃ x, e = .returned (.int .i64 x) ∧ R x w' := by
  have c0 : w.cell? ⟨c, 0, none⟩ = some (.pointer (some ⟨p, 0, none⟩)) := h.cell 0
  have HF := hid H
  clear h H
  go_enter Try.func17, Try.ntmps17
  go_wp2_with fail
  refine Calls.mono HF.out ?_
  rintro q w1 ⟨x, rfl, h1⟩
  have FIN := hid h1
  clear h1 HF
  go_wp2
  go_ret
  exact ⟨x, rfl, FIN.out⟩
set_option maxRecDepth 100000 in
set_option maxHeartbeats 1000000 in
theorem CNew_ok {w : World} (p room : Nat) (lo : 1 ≤ room) (hi : room ≤ 4096) :
    Calls Try.prog 4 #[.pointer (some ⟨p, 0, none⟩), .int .i64 (room : Int)] w fun q w' => ∃ c, q = .returned (.tuple #[.pointer (some ⟨c, 0, none⟩), .int .i64 0]) ∧ w.heap.size ≤ c ∧ Cst (fun k => w.heap.size ≤ k) w' c p room 0 0 [] ∧ Below w.heap.size w w' := by
  obtain ⟨w1, hw1⟩ : ∃ w1, w1 = w.alloc (.cells #[.pointer (some ⟨p, 0, none⟩), .int .i64 (room : Int), .pointer none, .map none, .int .i64 0, .int .i64 0] 57) := ⟨_, rfl⟩
  have g1 : Cg w1 w.heap.size p room (.pointer none) (.map none) 0 0 := by
    rw [hw1]
    show (w.heap.push _)[w.heap.size]? = _
    simp
  have b1 : Below w.heap.size w w1 := by rw [hw1]; exact (Below.refl _ _).alloc (Nat.le_refl _) _
  have z1 : w1.heap.size = w.heap.size + 1 := by rw [hw1]; simp
  have HN := hid (holdNothing_any g1 lo (by omega))
  clear g1
  have n0 : ¬ ((room : Int) < 1) := by omega
  have n1 : ¬ ((4096 : Int) < (room : Int)) := by omega
  go_enter Try.func4, Try.ntmps4
  go_wp2_with fail
  rw [← hw1]
  refine Calls.mono HN.out ?_
  rintro q w2 ⟨rfl, h2, b2⟩
  have FIN := hid (And.intro (h2.mono (Y := fun k => w.heap.size ≤ k) (fun k _ q => by rcases q with q | q <;> omega)) (b1.trans ((b2.below (B := w.heap.size) (by omega) (fun k hk q => by omega)))))
  clear h2 b2 HN b1 z1
  go_wp2
  go_ret2
  exact ⟨_, rfl, Nat.le_refl _, FIN.out.1, FIN.out.2⟩

end Go.Proofs.Ytfadnmdmohabmaa
