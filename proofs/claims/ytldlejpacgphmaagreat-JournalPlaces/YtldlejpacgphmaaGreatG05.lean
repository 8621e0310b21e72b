import Derived.Test.YtldlejpacgphmaaGreatG04
namespace Go.Proofs.YtldlejpacgphmaaGreat
open Go.RowKit Go.ChangeMaps
theorem Rg.bfr {f : Nat → En} {r : Nat} {es : List Nat} (h : Rg f r es) : (f r).bf ∈ r :: es := by
  obtain ⟨Q', z, hQ⟩ := last_form r es
  have e1 : r :: es ++ [r] = Q' ++ z :: [r] := by
    have : r :: es ++ [r] = (r :: es) ++ [r] := rfl
    rw [this, hQ]
    simp
  have hl := h.2
  rw [e1, Lk_app] at hl
  obtain ⟨_, _, h2, _⟩ := hl
  rw [h2, hQ]
  simp
/-- what is held, the least lately used first -/
def view (es : List Nat) (f : Nat → En) (Z : Nat → List Int) : List (Int × List Int) := es.map fun e => ((f e).at_, Z e)
def holdL (room : Nat) (l : List (Int × List Int)) (x : Int) (zs : List Int) : List (Int × List Int) :=
  if room < (l.filter (fun q => q.1 ≠ x) ++ [(x, zs)]).length then (l.filter (fun q => q.1 ≠ x) ++ [(x, zs)]).tail else l.filter (fun q => q.1 ≠ x) ++ [(x, zs)]
theorem setDv_same (f : Nat → En) (x : Nat) (v : Value) (z : Nat) : (setDv f x v z).at_ = (f z).at_ ∧ (setDv f x v z).af = (f z).af ∧ (setDv f x v z).bf = (f z).bf := by unfold setDv; split <;> simp_all
theorem setDv_at (f : Nat → En) (x : Nat) (v : Value) : (setDv f x v x).dv = v := by unfold setDv; rw [if_pos rfl]
theorem setDv_ne (f : Nat → En) {x z : Nat} (v : Value) (h : z ≠ x) : setDv f x v z = f z := if_neg h
theorem Ca.drew {X : Nat → Prop} {w : World} {c p room r mp n : Nat} {hi mi : Int} {es : List Nat} {f : Nat → En} {Z : Nat → List Int} (h : Ca X w c p room r mp n hi mi es f Z) : Ca X w.drew c p room r mp n hi mi es f Z := ⟨h.blk, h.ens, h.ring, h.map, h.dat, h.xc, h.xm, h.xe⟩
theorem zero45 (w : World) : (zeroValue 102).run Tryz.prog w = .ok (.pointer none) w := by kernel_rfl
set_option maxRecDepth 100000 in
set_option maxHeartbeats 4000000 in
theorem hold_hit {X : Nat → Prop} {w : World} {c p room r mp n : Nat} {hi mi : Int} {A B : List Nat} {e : Nat} {f : Nat → En} {Z : Nat → List Int} (h : Ca X w c p room r mp n hi mi (A ++ e :: B) f Z) (hrm : (A ++ e :: B).length ≤ room) {g cap : Nat} {zs : List Int} (hO : Own w g 512 cap zs) (hb : Pl.isB zs) (hX : X g) (hat : (Lit.int .i64 (f e).at_).wf = true) :
    Calls Tryz.prog 59 #[.pointer (some ⟨c, 0, none⟩), .int .i64 (f e).at_, .slice (some ⟨g, 0, none⟩) 512 cap] w fun q w' => q = .returned (.tuple #[]) ∧ (∃ f' Z', Ca X w' c p room r mp n hi mi (A ++ B ++ [e]) f' Z' ∧ (∀ y, (f' y).at_ = (f y).at_) ∧ Z' e = zs ∧ ∀ y, y ≠ e → Z' y = Z y) ∧ But X w w' ∧ Own w' g 512 cap zs := by
  obtain ⟨D, hm, hD⟩ := h.map
  have hkey : keyOf Tryz.prog 3 (.int .i64 (f e).at_) = some (.int .i64 (f e).at_) := Maps.keyOf_int_mk Tryz.underlying3 hat
  have heV : e ∈ r :: (A ++ e :: B) := by simp
  obtain ⟨hhas, hatk⟩ := hD.hit e (by simp)
  obtain ⟨x0, x1, x2, x3, x4, x5⟩ := h.blk.cells
  have e1c := (h.ens e heV).cells.2.1
  have e1f := (h.ens e heV).frozen 1
  obtain ⟨w1, hw1⟩ : ∃ w1, w1 = w.setCell ⟨e, 1, none⟩ (.slice (some ⟨g, 0, none⟩) 512 cap) := ⟨_, rfl⟩
  have h1 : Ens w1 (fun y => y ∈ r :: (A ++ e :: B)) (setDv f e (.slice (some ⟨g, 0, none⟩) 512 cap)) := by rw [hw1]; exact h.ens.setD heV _
  have r1 : Rg (setDv f e (.slice (some ⟨g, 0, none⟩) 512 cap)) r (A ++ e :: B) := h.ring.congr (fun y _ => ⟨(setDv_same f e _ y).2.1, (setDv_same f e _ y).2.2⟩)
  obtain ⟨r2, m1, m2⟩ := r1.unl
  have nce : e ≠ c := h.blk.ne_ent (h.ens e heV)
  have b1 : But (fun y => y = e) w w1 := by rw [hw1]; exact (But.refl (fun y => y = e) w).setCell (p := ⟨e, 1, none⟩) (show (fun y => y = e) e from rfl) _
  have hcl := h.blk.lt
  have cb1 : Cab w1 c p room r mp hi mi := (b1.block c hcl (fun q => nce q.symm)).trans h.blk
  have nen : e ∉ r :: (A ++ B) := by
    have hn := h.ring.1
    have hn2 : ((r :: A) ++ e :: B).Nodup := by simpa using hn
    obtain ⟨_, n2, n3⟩ := List.nodup_append.1 hn2
    intro hq
    simp at hq
    rcases hq with q | q | q
    · exact n3 r (by simp) e (by simp) q.symm
    · exact n3 e (by simp [q]) e (by simp) rfl
    · exact (List.nodup_cons.1 n2).1 q
  have hbf : (setDv f e (.slice (some ⟨g, 0, none⟩) 512 cap) e).bf ∈ r :: (A ++ e :: B) := by rcases m1 with q | q; rw [q]; simp; simp [q]
  have haf : (setDv f e (.slice (some ⟨g, 0, none⟩) 512 cap) e).af ∈ r :: (A ++ e :: B) := by rcases m2 with q | q; rw [q]; simp; simp [q]
  have hbr : (unl (setDv f e (.slice (some ⟨g, 0, none⟩) 512 cap)) e r).bf ∈ r :: (A ++ e :: B) := by
    have := r2.bfr
    simp at this ⊢
    rcases this with q | q | q
    · exact .inl q
    · exact .inr (.inl q)
    · exact .inr (.inr (.inr q))
  have HML := hid (makeLatest_any h1 (c := c) cb1.cells.2.2.1 (fun hv => cb1.ne_ent (h1 c hv) rfl) cb1.lt heV hbf haf (by simp) hbr)
  have hml := ownsMap_lt hm
  have nem : e ≠ mp := ent_ne_map hm (h.ens e heV)
  have hVm : ¬ mp ∈ r :: (A ++ e :: B) := fun hv => ent_ne_map hm (h.ens mp hv) rfl
  have hVc : ¬ c ∈ r :: (A ++ e :: B) := fun hv => h.blk.ne_ent (h.ens c hv) rfl
  have H := hid (And.intro h (And.intro hD (And.intro r2 nen)))
  have HF : Hid (∀ w2, Ens w2 (fun y => y ∈ r :: (A ++ e :: B)) (lnk (unl (setDv f e (.slice (some ⟨g, 0, none⟩) 512 cap)) e) e r) → But (fun y => y ∈ r :: (A ++ e :: B)) w1 w2 → w2.ownsMap Tryz.prog 3 ptrElem mp n D ∧ Cab w2 c p room r mp hi mi ∧ (∃ f' Z', Ca X w2 c p room r mp n hi mi (A ++ B ++ [e]) f' Z' ∧ (∀ y, (f' y).at_ = (f y).at_) ∧ Z' e = zs ∧ ∀ y, y ≠ e → Z' y = Z y) ∧ But X w w2 ∧ Own w2 g 512 cap zs) := fun w2 h2 b2 => by
    have b12 : But (fun y => y ∈ r :: (A ++ e :: B)) w w2 := (b1.mono (fun y _ q => by rw [q]; exact heV)).trans b2
    have hm2 := ownsMap_keep hm (b12.block mp hml hVm)
    have hc2 : Cab w2 c p room r mp hi mi := (b12.block c hcl hVc).trans h.blk
    have hae : ∀ y, (lnk (unl (setDv f e (.slice (some ⟨g, 0, none⟩) 512 cap)) e) e r y).at_ = (f y).at_ := fun y => by rw [(lnk_same _ _ _ _).1, (unl_same _ _ _).1, (setDv_same _ _ _ _).1]
    have hde : ∀ y, (lnk (unl (setDv f e (.slice (some ⟨g, 0, none⟩) 512 cap)) e) e r y).dv = (setDv f e (.slice (some ⟨g, 0, none⟩) 512 cap) y).dv := fun y => by rw [(lnk_same _ _ _ _).2, (unl_same _ _ _).2]
    have mem : ∀ y, y ∈ A ++ B ++ [e] ↔ y ∈ A ++ e :: B := fun y => by
      simp only [List.mem_append, List.mem_cons, or_false, List.not_mem_nil]
      constructor <;> (intro q; rcases q with q | q) <;> first | (rcases q with q | q <;> simp [q]) | simp [q]
    have t5 : ∀ g' cap' zs', Own w g' 512 cap' zs' → Own w2 g' 512 cap' zs' := fun g' cap' zs' ho => ho.keep (b12.block g' ho.lt (fun hv => by
      obtain ⟨cur, hk⟩ := ho.kind
      have := h.ens g' hv
      unfold EnB at this
      rw [hk] at this
      cases this))
    refine ⟨hm2, hc2, ⟨_, fun y => if y = e then zs else Z y, ⟨hc2, fun y hy => h2 y ?_, r2.lnk nen, ⟨D, hm2, hD.congr mem (by simp) (fun y _ => hae y)⟩, fun y hy => ?_, h.xc, h.xm, fun y hy => h.xe y ?_⟩, hae, if_pos rfl, fun y hy => if_neg hy⟩, b12.mono (fun y _ hy => h.xe y hy), t5 g cap zs hO⟩
    · rcases List.mem_cons.1 hy with q | q
      · rw [q]; simp
      · exact List.mem_cons_of_mem _ ((mem y).1 q)
    · by_cases q : y = e
      · subst q
        exact ⟨g, cap, by rw [hde, setDv_at], by show Own w2 g 512 cap (if y = y then zs else Z y); rw [if_pos rfl]; exact t5 g cap zs hO, by show Pl.isB (if y = y then zs else Z y); rw [if_pos rfl]; exact hb, hX⟩
      · obtain ⟨g', cap', q1, q2, q3, q4⟩ := h.dat y ((mem y).1 hy)
        exact ⟨g', cap', by rw [hde, setDv_ne f _ q]; exact q1, by show Own w2 g' 512 cap' (if y = e then zs else Z y); rw [if_neg q]; exact t5 g' cap' _ q2, by show Pl.isB (if y = e then zs else Z y); rw [if_neg q]; exact q3, q4⟩
    · rcases List.mem_cons.1 hy with q | q
      · rw [q]; simp
      · exact List.mem_cons_of_mem _ ((mem y).1 q)
  have hsz := hD.size
  generalize (f e).at_ = x at *
  generalize (f e).dv = od at *
  clear h1 r1 r2 m1 m2 cb1 b1 hbf haf hbr h hD hO
  go_enter Tryz.func59, Tryz.ntmps59
  go_wp2_with (at_lookup; refine wpList_lookup_own_ok _ rfl _ _ 103 rfl 3 102 law3 Tryz.underlying103 ptrElem (zero45 _) .nil [] rfl mp n D rfl hm _ _ rfl hkey ?_; intro v ps hv; rw [hatk .nil] at hv; obtain rfl := ptrElem_inv hv; rw [hhas])
  rw [← hw1]
  refine Calls.mono HML.out ?_
  rintro q w2 ⟨rfl, h2, b2⟩
  obtain ⟨hm2, hc2, hca, hbx, hox⟩ := HF.out w2 h2 b2
  obtain ⟨y0, y1, y2, y3, y4, y5⟩ := hc2.cells
  have hlen := fun ty => World.ownsMap.len hm2 Tryz.underlying103 ty
  have hlend := fun ty => World.ownsMap.len (ownsMap_keep (w' := w2.drew) hm2 rfl) Tryz.underlying103 ty
  rw [hsz] at hlen hlend
  generalize (A ++ e :: B).length = ln at *
  have hnr : ¬ ((room : Int) < (ln : Int)) := by omega
  have FIN := hid (And.intro hca (And.intro hbx hox))
  clear HML HF h2 b2 hca hbx hox hc2 hm2 x0 x1 x2 x3 x4 x5 e1c e1f hhas hatk
  go_wp2_with fail
  go_region
  all_goals go_wp2
  all_goals
    go_end0
    obtain ⟨f', Z', q1, q2⟩ := FIN.out.1
    exact ⟨rfl, ⟨f', Z', q1.drew, q2⟩, FIN.out.2.1.drew, FIN.out.2.2⟩
end Go.Proofs.YtldlejpacgphmaaGreat
namespace Go.Proofs.YtldlejpacgphmaaGreat
open Go.RowKit Go.ChangeMaps
theorem ownsMap_tight {w : World} {mp n : Nat} {D : DataW Nat} (h : w.ownsMap Tryz.prog 3 ptrElem mp n D) : w.ownsMap Tryz.prog 3 ptrElem mp (Maps.size D) D := by
  obtain ⟨es, ck, h1, h2, h3, rfl⟩ := h
  exact ⟨es, ck, h1, h2, by simp [Maps.size, length_sorted], rfl⟩
theorem Ca.tight {X : Nat → Prop} {w : World} {c p room r mp n : Nat} {hi mi : Int} {es : List Nat} {f : Nat → En} {Z : Nat → List Int} (h : Ca X w c p room r mp n hi mi es f Z) : Ca X w c p room r mp es.length hi mi es f Z := by
  obtain ⟨D, hm, hD⟩ := h.map
  refine ⟨h.blk, h.ens, h.ring, ⟨D, ?_, hD⟩, h.dat, h.xc, h.xm, h.xe⟩
  rw [← hD.size]
  exact ownsMap_tight hm
theorem Ca.mono {X Y : Nat → Prop} {w : World} {c p room r mp n : Nat} {hi mi : Int} {es : List Nat} {f : Nat → En} {Z : Nat → List Int} (h : Ca X w c p room r mp n hi mi es f Z) (hX : ∀ k, k < w.heap.size → X k → Y k) : Ca Y w c p room r mp n hi mi es f Z := by
  obtain ⟨D, hm, hD⟩ := h.map
  exact ⟨h.blk, h.ens, h.ring, h.map, fun e he => by
    obtain ⟨g, cap, q1, q2, q3, q4⟩ := h.dat e he
    exact ⟨g, cap, q1, q2, q3, hX g q2.lt q4⟩, hX c h.blk.lt h.xc, hX mp (ownsMap_lt hm) h.xm, fun x hx => hX x (h.ens x hx).lt (h.xe x hx)⟩
theorem Own.ne_ent {w : World} {g n cap : Nat} {zs : List Int} (ho : Own w g n cap zs) {x : Nat} {e : En} (hx : EnB w x e) : g ≠ x := fun q => by
  obtain ⟨cur, hk⟩ := ho.kind
  unfold EnB at hx
  rw [← q, hk] at hx
  cases hx
theorem Own.ne_map {w : World} {g n cap mp m : Nat} {zs : List Int} {D : DataW Nat} (ho : Own w g n cap zs) (hm : w.ownsMap Tryz.prog 3 ptrElem mp m D) : g ≠ mp := fun q => by
  obtain ⟨cur, hk⟩ := ho.kind
  obtain ⟨es, ck, h1, _⟩ := hm
  rw [← q, hk] at h1
  cases h1
set_option maxHeartbeats 1000000 in
theorem letGo_first {X : Nat → Prop} {w : World} {c p room r mp n : Nat} {hi mi : Int} {B : List Nat} {e : Nat} {f : Nat → En} {Z : Nat → List Int} (h : Ca X w c p room r mp n hi mi (e :: B) f Z) (hat : (Lit.int .i64 (f e).at_).wf = true) :
    Calls Tryz.prog 91 #[.pointer (some ⟨c, 0, none⟩), .pointer (some ⟨e, 0, none⟩)] w fun q w' => q = .returned (.tuple #[]) ∧ Ca X w' c p room r mp n hi mi B (unl f e) Z ∧ But X w w' ∧ ∀ g n cap zs, Own w g n cap zs → Own w' g n cap zs := by
  obtain ⟨D, hm, hD⟩ := h.map
  obtain ⟨r2, m1, m2⟩ := Rg.unl (A := []) h.ring
  have hnd := h.ring.1
  have hn : e ∉ B := (List.nodup_cons.1 (List.nodup_cons.1 hnd).2).1
  have hb : (f e).bf ∈ r :: e :: B := by rcases m1 with q | q; rw [q]; simp; simp at q
  have ha : (f e).af ∈ r :: e :: B := by rcases m2 with q | q; rw [q]; simp; simp [q]
  refine Calls.mono (letGo_any h.blk h.ens (by simp) hb ha hm hD hn hat) ?_
  rintro q w' ⟨rfl, h1, ⟨D', hm', hD'⟩, b1⟩
  have hVc : ¬ c ∈ r :: e :: B := fun hv => h.blk.ne_ent (h.ens c hv) rfl
  refine ⟨rfl, ⟨(b1.block c h.blk.lt (fun q => ?_)).trans h.blk, fun x hx => h1 x ?_, r2, ⟨D', hm', hD'⟩, fun y hy => ?_, h.xc, h.xm, fun x hx => h.xe x ?_⟩, b1.mono (fun x _ hx => ?_), fun g n cap zs ho => ho.keep (b1.block g ho.lt (fun q => ?_))⟩
  · rcases q with q | q
    · exact hVc q
    · exact h.blk.ne_map hm q
  · simp at hx ⊢
    rcases hx with q | q
    · exact .inl q
    · exact .inr (.inr q)
  · obtain ⟨g, cap, q1, q2, q3, q4⟩ := h.dat y (by simp [hy])
    refine ⟨g, cap, by rw [(unl_same f e y).2]; exact q1, q2.keep (b1.block g q2.lt (fun q => ?_)), q3, q4⟩
    rcases q with q | q
    · exact q2.ne_ent (h.ens g q) rfl
    · exact q2.ne_map hm q
  · simp at hx ⊢
    rcases hx with q | q
    · exact .inl q
    · exact .inr (.inr q)
  · rcases hx with q | q
    · exact h.xe x q
    · rw [q]; exact h.xm
  · rcases q with q | q
    · exact ho.ne_ent (h.ens g q) rfl
    · exact ho.ne_map hm q
/-- the entries with a new one, alone -/
def newE (f : Nat → En) (e : Nat) (x : Int) (v : Value) (z : Nat) : En := if z = e then ⟨x, v, e, e⟩ else f z
theorem newE_at (f : Nat → En) (e : Nat) (x : Int) (v : Value) : newE f e x v e = ⟨x, v, e, e⟩ := if_pos rfl
theorem newE_ne (f : Nat → En) {e z : Nat} (x : Int) (v : Value) (h : z ≠ e) : newE f e x v z = f z := if_neg h
set_option maxHeartbeats 1000000 in
theorem Ca.grow {X : Nat → Prop} {w w1 w2 w3 : World} {c p room r mp n : Nat} {hi mi : Int} {es : List Nat} {f : Nat → En} {Z : Nat → List Int} {D : DataW Nat} (h : Ca X w c p room r mp n hi mi es f Z) {x : Int} (hx : ∀ e ∈ es, (f e).at_ ≠ x) {g cap : Nat} {zs : List Int} (hO : Own w g 512 cap zs) (hb : Pl.isB zs) (hX : X g)
    (hm : w.ownsMap Tryz.prog 3 ptrElem mp n D) (hD : BM D es f)
    (e1 : EnB w1 w.heap.size ⟨x, .slice none 0 0, w.heap.size, w.heap.size⟩) (b1 : Below w.heap.size w w1) (s1 : w1.heap.size = w.heap.size + 1)
    (m2 : w2.ownsMap Tryz.prog 3 ptrElem mp (n + 1) (D.put (.int .i64 x) (.held w.heap.size))) (t2 : w1.mapTurned w2 mp) (h3 : w3 = w2.setCell ⟨w.heap.size, 1, none⟩ (.slice (some ⟨g, 0, none⟩) 512 cap)) :
    Ens w3 (fun y => y ∈ r :: (es ++ [w.heap.size])) (newE f w.heap.size x (.slice (some ⟨g, 0, none⟩) 512 cap)) ∧ Cab w3 c p room r mp hi mi ∧ EnB w2 w.heap.size ⟨x, .slice none 0 0, w.heap.size, w.heap.size⟩ ∧ Cab w2 c p room r mp hi mi ∧ (∀ w4, Ens w4 (fun y => y ∈ r :: (es ++ [w.heap.size])) (lnk (unl (newE f w.heap.size x (.slice (some ⟨g, 0, none⟩) 512 cap)) w.heap.size) w.heap.size r) → But (fun y => y ∈ r :: (es ++ [w.heap.size])) w3 w4 → But X w w4 ∧ Own w4 g 512 cap zs ∧ ∃ f' Z', Ca (fun k => X k ∨ k = w.heap.size) w4 c p room r mp (n + 1) hi mi (es ++ [w.heap.size]) f' Z' ∧ f' = lnk (newE f w.heap.size x (.slice (some ⟨g, 0, none⟩) 512 cap)) w.heap.size r ∧ Z' w.heap.size = zs ∧ ∀ y, y ≠ w.heap.size → Z' y = Z y) := by
  have hml := ownsMap_lt hm
  have b2 := turned_but t2
  have hcl := h.blk.lt
  have ncm : c ≠ mp := h.blk.ne_map hm
  have hVl : ∀ y, y ∈ r :: es → y < w.heap.size := fun y hy => (h.ens y hy).lt
  have hVm : ∀ y, y ∈ r :: es → y ≠ mp := fun y hy => ent_ne_map hm (h.ens y hy)
  have hVc : ∀ y, y ∈ r :: es → y ≠ c := fun y hy => h.blk.ne_ent (h.ens y hy)
  have nen : w.heap.size ∉ r :: es := fun hy => Nat.lt_irrefl _ (hVl _ hy)
  have k12 : ∀ y, y < w.heap.size → y ≠ mp → w2.heap[y]? = w.heap[y]? := fun y hy hn => (b2.block y (by omega) hn).trans (b1.block y hy)
  have ke2 : EnB w2 w.heap.size ⟨x, .slice none 0 0, w.heap.size, w.heap.size⟩ := (b2.block w.heap.size (by omega) (by omega)).trans e1
  have b23 : But (fun y => y = w.heap.size) w2 w3 := by rw [h3]; exact (But.refl (fun y => y = w.heap.size) w2).setCell (p := ⟨w.heap.size, 1, none⟩) (show (fun y => y = w.heap.size) w.heap.size from rfl) _
  have s2 := b2.size
  have k3 : ∀ y, y < w.heap.size → y ≠ mp → w3.heap[y]? = w.heap[y]? := fun y hy hn => (b23.block y (by omega) (by omega)).trans (k12 y hy hn)
  have hc2 : Cab w2 c p room r mp hi mi := (k12 c hcl ncm).trans h.blk
  have hc3 : Cab w3 c p room r mp hi mi := (k3 c hcl ncm).trans h.blk
  have h3e : Ens w3 (fun y => y ∈ r :: (es ++ [w.heap.size])) (newE f w.heap.size x (.slice (some ⟨g, 0, none⟩) 512 cap)) := fun y hy => by
    by_cases q : y = w.heap.size
    · subst q
      rw [newE_at, h3]
      unfold EnB
      simpa using ke2.set 1 (.slice (some ⟨g, 0, none⟩) 512 cap)
    · have hy' : y ∈ r :: es := by simpa [q] using hy
      rw [newE_ne f _ _ q]
      exact (k3 y (hVl y hy') (hVm y hy')).trans (h.ens y hy')
  refine ⟨h3e, hc3, ke2, hc2, fun w4 h4 b4 => ?_⟩
  have hua : unl (newE f w.heap.size x (.slice (some ⟨g, 0, none⟩) 512 cap)) w.heap.size = newE f w.heap.size x (.slice (some ⟨g, 0, none⟩) 512 cap) := unl_alone (by rw [newE_at]) (by rw [newE_at])
  rw [hua] at h4
  have r3 : Rg (newE f w.heap.size x (.slice (some ⟨g, 0, none⟩) 512 cap)) r es := h.ring.congr (fun y hy => by
    have hyn : y ≠ w.heap.size := fun q => nen (by rw [← q]; exact hy)
    rw [newE_ne f _ _ hyn]
    exact ⟨rfl, rfl⟩)
  have s3 := b23.size
  have k4 : ∀ y, y < w.heap.size → y ≠ mp → y ∉ r :: es → w4.heap[y]? = w.heap[y]? := fun y hy hn hv => (b4.block y (by omega) (fun q => by
    rcases List.mem_cons.1 q with q | q
    · exact hv (by simp [q])
    · rcases List.mem_append.1 q with q | q
      · exact hv (by simp [q])
      · simp at q; omega)).trans (k3 y hy hn)
  have m4 : w4.ownsMap Tryz.prog 3 ptrElem mp (n + 1) (D.put (.int .i64 x) (.held w.heap.size)) := ownsMap_keep m2 ((b4.block mp (by omega) (fun q => by
    rcases List.mem_cons.1 q with q | q
    · exact hVm r (by simp) q.symm
    · rcases List.mem_append.1 q with q | q
      · exact hVm mp (by simp [q]) rfl
      · simp at q; omega)).trans (b23.block mp (by omega) (by omega)))
  have hat : ∀ y, (lnk (newE f w.heap.size x (.slice (some ⟨g, 0, none⟩) 512 cap)) w.heap.size r y).at_ = (newE f w.heap.size x (.slice (some ⟨g, 0, none⟩) 512 cap) y).at_ := fun y => (lnk_same _ _ _ _).1
  have hdv : ∀ y, (lnk (newE f w.heap.size x (.slice (some ⟨g, 0, none⟩) 512 cap)) w.heap.size r y).dv = (newE f w.heap.size x (.slice (some ⟨g, 0, none⟩) 512 cap) y).dv := fun y => (lnk_same _ _ _ _).2
  have t5 : ∀ g' cap' zs', Own w g' 512 cap' zs' → Own w4 g' 512 cap' zs' := fun g' cap' zs' ho => ho.keep (k4 g' ho.lt (ho.ne_map hm) (fun hv => ho.ne_ent (h.ens g' hv) rfl))
  have hDn : BM D es (newE f w.heap.size x (.slice (some ⟨g, 0, none⟩) 512 cap)) := hD.congr (fun _ => Iff.rfl) rfl (fun y hy => by rw [newE_ne f _ _ (fun q => nen (by simp [← q, hy]))])
  have hDp := hDn.put (e := w.heap.size) (fun y hy => by rw [newE_at, newE_ne f _ _ (fun q => nen (by simp [← q, hy]))]; exact hx y hy)
  rw [newE_at] at hDp
  refine ⟨⟨by rw [b4.os, b23.os, b2.os, b1.os], by rw [b4.tape, b23.tape, b2.tape, b1.tape], by rw [b4.output, b23.output, b2.output, b1.output], by have := b4.size; omega, fun k hk hnx => k4 k hk (fun q => hnx (by rw [q]; exact h.xm)) (fun q => hnx (h.xe k q))⟩, t5 g cap zs hO, _, fun y => if y = w.heap.size then zs else Z y, ⟨?_, h4, r3.lnk nen, ⟨_, m4, hDp.congr (fun _ => Iff.rfl) rfl (fun y _ => hat y)⟩, fun y hy => ?_, .inl h.xc, .inl h.xm, fun y hy => ?_⟩, rfl, if_pos rfl, fun y hy => if_neg hy⟩
  · exact (k4 c hcl ncm (fun q => hVc c q rfl)).trans h.blk
  · by_cases q : y = w.heap.size
    · subst q
      exact ⟨g, cap, by rw [hdv, newE_at], by simpa using t5 g cap zs hO, by simpa using hb, .inl hX⟩
    · have hy' : y ∈ es := by simpa [q] using hy
      obtain ⟨g', cap', q1, q2, q3, q4⟩ := h.dat y hy'
      exact ⟨g', cap', by rw [hdv, newE_ne f _ _ q]; exact q1, by simpa [q] using t5 g' cap' _ q2, by simpa [q] using q3, .inl q4⟩
  · by_cases q : y = w.heap.size
    · exact .inr q
    · exact .inl (h.xe y (by simpa [q] using hy))
end Go.Proofs.YtldlejpacgphmaaGreat
namespace Go.Proofs.YtldlejpacgphmaaGreat
open Go.RowKit Go.ChangeMaps
set_option maxRecDepth 100000 in
set_option maxHeartbeats 4000000 in
theorem hold_fits {X : Nat → Prop} {w : World} {c p room r mp n : Nat} {hi mi : Int} {es : List Nat} {f : Nat → En} {Z : Nat → List Int} (h : Ca X w c p room r mp n hi mi es f Z) (hrm : es.length < room) (hln : n < maxLen) {x : Int} (hx : ∀ e ∈ es, (f e).at_ ≠ x) {g cap : Nat} {zs : List Int} (hO : Own w g 512 cap zs) (hb : Pl.isB zs) (hX : X g) (hat : (Lit.int .i64 x).wf = true) :
    Calls Tryz.prog 59 #[.pointer (some ⟨c, 0, none⟩), .int .i64 x, .slice (some ⟨g, 0, none⟩) 512 cap] w fun q w' => q = .returned (.tuple #[]) ∧ (∃ f' Z', Ca (fun k => X k ∨ k = w.heap.size) w' c p room r mp (n + 1) hi mi (es ++ [w.heap.size]) f' Z' ∧ (f' w.heap.size).at_ = x ∧ (∀ y, y ≠ w.heap.size → (f' y).at_ = (f y).at_) ∧ Z' w.heap.size = zs ∧ ∀ y, y ≠ w.heap.size → Z' y = Z y) ∧ But X w w' ∧ Own w' g 512 cap zs := by
  obtain ⟨D, hm, hD⟩ := h.map
  have hkey : keyOf Tryz.prog 3 (.int .i64 x) = some (.int .i64 x) := Maps.keyOf_int_mk Tryz.underlying3 hat
  have hhas := hD.miss x hx
  obtain ⟨x0, x1, x2, x3, x4, x5⟩ := h.blk.cells
  have hcl := h.blk.lt
  have hml := ownsMap_lt hm
  have hsz := hD.size
  have hrb : (f r).bf ∈ r :: es := h.ring.bfr
  have nen : w.heap.size ∉ r :: es := fun hy => Nat.lt_irrefl _ (h.ens _ hy).lt
  have H := hid (And.intro h (And.intro hm (And.intro hD (And.intro hO hb))))
  have HA := hid (alone_any x w)
  clear h hD hO hb
  go_enter Tryz.func59, Tryz.ntmps59
  go_wp2_with (at_lookup; refine wpList_lookup_own_ok _ rfl _ _ 103 rfl 3 102 law3 Tryz.underlying103 ptrElem (zero45 _) .nil [] rfl mp n D rfl hm _ _ rfl hkey ?_; intro v ps hv; clear hv; rw [hhas])
  refine Calls.mono HA.out ?_
  rintro q w1 ⟨rfl, e1, b1, s1⟩
  have hm1 := ownsMap_keep hm (b1.block mp hml)
  have d3 : w1.cell? ⟨c, 3, none⟩ = some (.map (some mp)) := (World.cell?_of_block (w := w) (b1.block c hcl)).trans x3
  obtain ⟨w2, hrun, m2, t2⟩ := World.ownsMap.store (w := w1) hm1 law3 Tryz.underlying103 hln hkey (val := .pointer (some ⟨w.heap.size, 0, none⟩)) (d := .held w.heap.size) (ps := []) rfl
  obtain ⟨w3, hw3⟩ : ∃ w3, w3 = w2.setCell ⟨w.heap.size, 1, none⟩ (.slice (some ⟨g, 0, none⟩) 512 cap) := ⟨_, rfl⟩
  obtain ⟨g1, g2, g3, g4, g5⟩ := H.out.1.grow hx H.out.2.2.2.1 H.out.2.2.2.2 hX hm H.out.2.2.1 e1 b1 s1 m2 t2 hw3
  have y1 := g3.cells.2.1
  have y1f := g3.frozen 1
  obtain ⟨u0, u1, u2, u3, u4, u5⟩ := g4.cells
  have hua : unl (newE f w.heap.size x (.slice (some ⟨g, 0, none⟩) 512 cap)) w.heap.size = newE f w.heap.size x (.slice (some ⟨g, 0, none⟩) 512 cap) := unl_alone (by rw [newE_at]) (by rw [newE_at])
  have hrn : r ≠ w.heap.size := fun q => nen (by rw [← q]; simp)
  have HML := hid (makeLatest_any g1 (c := c) g2.cells.2.2.1 (fun hv => g2.ne_ent (g1 c hv) rfl) g2.lt (e := w.heap.size) (by simp) (by rw [newE_at]; simp) (by rw [newE_at]; simp) (by simp) (by
    rw [hua, newE_ne f _ _ hrn]
    rcases List.mem_cons.1 hrb with q | q
    · rw [q]; simp
    · exact List.mem_cons_of_mem _ (List.mem_append_left _ q)))
  have G := hid g5
  clear g5 g1 g2 g3 g4 m2 t2 e1 b1 hua hrb hsz hx hm hhas HA hm1
  generalize hE : w.heap.size = E at *
  go_wp2_with fail
  rw [← hw3]
  refine Calls.mono HML.out ?_
  rintro q w4 ⟨rfl, h4, b4⟩
  obtain ⟨bx, ox, f', Z', ca, hf', z1, z2⟩ := G.out w4 h4 b4
  obtain ⟨D4, hm4, hD4⟩ := ca.map
  obtain ⟨y0, y1, y2, y3, y4, y5⟩ := ca.blk.cells
  have hsz := hD4.size
  have hlen := fun ty => World.ownsMap.len hm4 Tryz.underlying103 ty
  have hlend := fun ty => World.ownsMap.len (ownsMap_keep (w' := w4.drew) hm4 rfl) Tryz.underlying103 ty
  rw [hsz] at hlen hlend
  have hat' : ∀ y, (f' y).at_ = (newE f E x (.slice (some ⟨g, 0, none⟩) 512 cap) y).at_ := fun y => by rw [hf']; exact (lnk_same _ _ _ _).1
  have hll : (es ++ [E]).length = es.length + 1 := by simp
  rw [hll] at hlen hlend
  have hnr : ¬ ((room : Int) < ((es.length + 1 : Nat) : Int)) := by omega
  generalize es.length + 1 = ln at *
  have FIN : Hid ((∃ f' Z', Ca (fun k => X k ∨ k = E) w4 c p room r mp (n + 1) hi mi (es ++ [E]) f' Z' ∧ (f' E).at_ = x ∧ (∀ y, y ≠ E → (f' y).at_ = (f y).at_) ∧ Z' E = zs ∧ ∀ y, y ≠ E → Z' y = Z y) ∧ But X w w4 ∧ Own w4 g 512 cap zs) := ⟨⟨f', Z', ca, by rw [hat', newE_at], fun y hy => by rw [hat', newE_ne f _ _ hy], z1, z2⟩, bx, ox⟩
  clear HML h4 b4 ca hm4 hD4 G x0 x1 x2 x3 x4 x5 u0 u1 u2 u3 u4 u5 H
  go_wp2_with fail
  go_region
  all_goals go_wp2
  all_goals
    go_end0
    subst hE
    obtain ⟨f', Z', q1, q2⟩ := FIN.out.1
    exact ⟨rfl, ⟨f', Z', q1.drew, q2⟩, FIN.out.2.1.drew, FIN.out.2.2⟩
set_option maxRecDepth 100000 in
set_option maxHeartbeats 4000000 in
theorem hold_full {X : Nat → Prop} {w : World} {c p room r mp n : Nat} {hi mi : Int} {a : Nat} {es : List Nat} {f : Nat → En} {Z : Nat → List Int} (h : Ca X w c p room r mp n hi mi (a :: es) f Z) (hrm : (a :: es).length = room) (hwa : (Lit.int .i64 (f a).at_).wf = true) (hln : n < maxLen) {x : Int} (hx : ∀ e ∈ (a :: es), (f e).at_ ≠ x) {g cap : Nat} {zs : List Int} (hO : Own w g 512 cap zs) (hb : Pl.isB zs) (hX : X g) (hat : (Lit.int .i64 x).wf = true) :
    Calls Tryz.prog 59 #[.pointer (some ⟨c, 0, none⟩), .int .i64 x, .slice (some ⟨g, 0, none⟩) 512 cap] w fun q w' => q = .returned (.tuple #[]) ∧ (∃ f' Z', Ca (fun k => X k ∨ k = w.heap.size) w' c p room r mp (n + 1) hi mi (es ++ [w.heap.size]) f' Z' ∧ (f' w.heap.size).at_ = x ∧ (∀ y, y ≠ w.heap.size → (f' y).at_ = (f y).at_) ∧ Z' w.heap.size = zs ∧ ∀ y, y ≠ w.heap.size → Z' y = Z y) ∧ But X w w' ∧ Own w' g 512 cap zs := by
  obtain ⟨D, hm, hD⟩ := h.map
  have hkey : keyOf Tryz.prog 3 (.int .i64 x) = some (.int .i64 x) := Maps.keyOf_int_mk Tryz.underlying3 hat
  have hhas := hD.miss x hx
  obtain ⟨x0, x1, x2, x3, x4, x5⟩ := h.blk.cells
  have hcl := h.blk.lt
  have hml := ownsMap_lt hm
  have hsz := hD.size
  have hrb : (f r).bf ∈ r :: (a :: es) := h.ring.bfr
  have nen : w.heap.size ∉ r :: (a :: es) := fun hy => Nat.lt_irrefl _ (h.ens _ hy).lt
  have H := hid (And.intro h (And.intro hm (And.intro hD (And.intro hO hb))))
  have HA := hid (alone_any x w)
  clear h hD hO hb
  go_enter Tryz.func59, Tryz.ntmps59
  go_wp2_with (at_lookup; refine wpList_lookup_own_ok _ rfl _ _ 103 rfl 3 102 law3 Tryz.underlying103 ptrElem (zero45 _) .nil [] rfl mp n D rfl hm _ _ rfl hkey ?_; intro v ps hv; clear hv; rw [hhas])
  refine Calls.mono HA.out ?_
  rintro q w1 ⟨rfl, e1, b1, s1⟩
  have hm1 := ownsMap_keep hm (b1.block mp hml)
  have d3 : w1.cell? ⟨c, 3, none⟩ = some (.map (some mp)) := (World.cell?_of_block (w := w) (b1.block c hcl)).trans x3
  obtain ⟨w2, hrun, m2, t2⟩ := World.ownsMap.store (w := w1) hm1 law3 Tryz.underlying103 hln hkey (val := .pointer (some ⟨w.heap.size, 0, none⟩)) (d := .held w.heap.size) (ps := []) rfl
  obtain ⟨w3, hw3⟩ : ∃ w3, w3 = w2.setCell ⟨w.heap.size, 1, none⟩ (.slice (some ⟨g, 0, none⟩) 512 cap) := ⟨_, rfl⟩
  obtain ⟨g1, g2, g3, g4, g5⟩ := H.out.1.grow hx H.out.2.2.2.1 H.out.2.2.2.2 hX hm H.out.2.2.1 e1 b1 s1 m2 t2 hw3
  have y1 := g3.cells.2.1
  have y1f := g3.frozen 1
  obtain ⟨u0, u1, u2, u3, u4, u5⟩ := g4.cells
  have hua : unl (newE f w.heap.size x (.slice (some ⟨g, 0, none⟩) 512 cap)) w.heap.size = newE f w.heap.size x (.slice (some ⟨g, 0, none⟩) 512 cap) := unl_alone (by rw [newE_at]) (by rw [newE_at])
  have hrn : r ≠ w.heap.size := fun q => nen (by rw [← q]; simp)
  have HML := hid (makeLatest_any g1 (c := c) g2.cells.2.2.1 (fun hv => g2.ne_ent (g1 c hv) rfl) g2.lt (e := w.heap.size) (by simp) (by rw [newE_at]; simp) (by rw [newE_at]; simp) (by simp) (by
    rw [hua, newE_ne f _ _ hrn]
    rcases List.mem_cons.1 hrb with q | q
    · rw [q]; simp
    · exact List.mem_cons_of_mem _ (List.mem_append_left _ q)))
  have G := hid g5
  clear g5 g1 g2 g3 g4 m2 t2 e1 b1 hua hrb hsz hx hm hhas HA hm1
  generalize hE : w.heap.size = E at *
  go_wp2_with fail
  rw [← hw3]
  refine Calls.mono HML.out ?_
  rintro q w4 ⟨rfl, h4, b4⟩
  obtain ⟨bx, ox, f', Z', ca, hf', z1, z2⟩ := G.out w4 h4 b4
  obtain ⟨D4, hm4, hD4⟩ := ca.map
  obtain ⟨y0, y1, y2, y3, y4, y5⟩ := ca.blk.cells
  have hsz := hD4.size
  have hlen := fun ty => World.ownsMap.len hm4 Tryz.underlying103 ty
  have hlend := fun ty => World.ownsMap.len (ownsMap_keep (w' := w4.drew) hm4 rfl) Tryz.underlying103 ty
  rw [hsz] at hlen hlend
  have hat' : ∀ y, (f' y).at_ = (newE f E x (.slice (some ⟨g, 0, none⟩) 512 cap) y).at_ := fun y => by rw [hf']; exact (lnk_same _ _ _ _).1
  have hll : ((a :: es) ++ [E]).length = room + 1 := by simp at hrm ⊢; omega
  rw [hll] at hlen hlend
  have hnr : (room : Int) < ((room + 1 : Nat) : Int) := by omega
  have cb : Ca (fun k => X k ∨ k = E) w4 c p room r mp (n + 1) hi mi (a :: (es ++ [E])) f' Z' := ca
  have v3 := (cb.ens r (by simp)).cells.2.2.2
  rw [cb.ring.first] at v3
  have hna : a ≠ E := fun q => nen (by rw [← q]; simp)
  have hwa' : (Lit.int .i64 (f' a).at_).wf = true := by rw [hat', newE_ne f _ _ hna]; exact hwa
  have HL := hid (letGo_first cb.drew hwa')
  have FIN : Hid (∀ w5, Ca (fun k => X k ∨ k = E) w5 c p room r mp (n + 1) hi mi (es ++ [E]) (unl f' a) Z' → But (fun k => X k ∨ k = E) w4.drew w5 → (∀ g n cap zs, Own w4.drew g n cap zs → Own w5 g n cap zs) → (∃ f' Z', Ca (fun k => X k ∨ k = E) w5 c p room r mp (n + 1) hi mi (es ++ [E]) f' Z' ∧ (f' E).at_ = x ∧ (∀ y, y ≠ E → (f' y).at_ = (f y).at_) ∧ Z' E = zs ∧ ∀ y, y ≠ E → Z' y = Z y) ∧ But X w w5 ∧ Own w5 g 512 cap zs) := fun w5 c5 b5 o5 => ⟨⟨_, Z', c5, by rw [(unl_same _ _ _).1, hat', newE_at], fun y hy => by rw [(unl_same _ _ _).1, hat', newE_ne f _ _ hy], z1, z2⟩, bx.drew.comp b5 (fun k hk q => by
    rcases q with q | q
    · exact q
    · omega), o5 g 512 cap zs ox⟩
  generalize room + 1 = ln at *
  clear HML h4 b4 ca cb hm4 hD4 G x0 x1 x2 x3 x4 x5 u0 u1 u2 u3 u4 u5 H bx ox
  go_wp2_with fail
  go_region
  all_goals go_wp2_with fail
  all_goals
    refine Calls.mono HL.out ?_
    rintro q w5 ⟨rfl, h5, b5, o5⟩
    go_wp2
    go_end0
    subst hE
    exact ⟨rfl, FIN.out w5 h5 b5 o5⟩
end Go.Proofs.YtldlejpacgphmaaGreat
