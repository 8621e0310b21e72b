/-
  Package cache: hold, of a block that is held.
-/
import Derived.Test.YtokgfnfgpjkpjaaCa1
namespace Go.Proofs.Ytokgfnfgpjkpjaa
open Go.RowKit Go.ChangeMaps

theorem Rg.bfr {f : Nat → En} {r : Nat} {es : List Nat} (h : Rg f r es) : (f r).bf ∈ r :: es := by
  obtain ⟨Q', z, hQ⟩ := last_form r es
  have e1 : r :: es ++ [r] = Q' ++ z :: [r] := by
    have : r :: es ++ [r] = (r :: es) ++ [r] := rfl
    rw [this, hQ]
    simp
  have hl := h.2
  rw [e1, Lk_app] at hl
  obtain ⟨_, _, h2, _⟩ := hl
  rw [h2, hQ]
  simp
/-- what is held, the least lately used first -/
def view (es : List Nat) (f : Nat → En) (Z : Nat → List Int) : List (Int × List Int) := es.map fun e => ((f e).at_, Z e)
def holdL (room : Nat) (l : List (Int × List Int)) (x : Int) (zs : List Int) : List (Int × List Int) :=
  if room < (l.filter (fun q => q.1 ≠ x) ++ [(x, zs)]).length then (l.filter (fun q => q.1 ≠ x) ++ [(x, zs)]).tail else l.filter (fun q => q.1 ≠ x) ++ [(x, zs)]
theorem setDv_same (f : Nat → En) (x : Nat) (v : Value) (z : Nat) : (setDv f x v z).at_ = (f z).at_ ∧ (setDv f x v z).af = (f z).af ∧ (setDv f x v z).bf = (f z).bf := by unfold setDv; split <;> simp_all
theorem setDv_at (f : Nat → En) (x : Nat) (v : Value) : (setDv f x v x).dv = v := by unfold setDv; rw [if_pos rfl]
theorem setDv_ne (f : Nat → En) {x z : Nat} (v : Value) (h : z ≠ x) : setDv f x v z = f z := if_neg h
theorem Ca.drew {X : Nat → Prop} {w : World} {c p room r mp n : Nat} {hi mi : Int} {es : List Nat} {f : Nat → En} {Z : Nat → List Int} (h : Ca X w c p room r mp n hi mi es f Z) : Ca X w.drew c p room r mp n hi mi es f Z := ⟨h.blk, h.ens, h.ring, h.map, h.dat, h.xc, h.xm, h.xe⟩
theorem zero45 (w : World) : (zeroValue 45).run Try.prog w = .ok (.pointer none) w := by kernel_rfl

set_option maxRecDepth 100000 in
set_option maxHeartbeats 4000000 in
theorem hold_hit {X : Nat → Prop} {w : World} {c p room r mp n : Nat} {hi mi : Int} {A B : List Nat} {e : Nat} {f : Nat → En} {Z : Nat → List Int} (h : Ca X w c p room r mp n hi mi (A ++ e :: B) f Z) (hrm : (A ++ e :: B).length ≤ room) {g cap : Nat} {zs : List Int} (hO : Own w g 512 cap zs) (hb : Pl.isB zs) (hX : X g) (hat : (Lit.int .i64 (f e).at_).wf = true) :
    Calls Try.prog 29 #[.pointer (some ⟨c, 0, none⟩), .int .i64 (f e).at_, .slice (some ⟨g, 0, none⟩) 512 cap] w fun q w' => q = .returned (.tuple #[]) ∧ (∃ f' Z', Ca X w' c p room r mp n hi mi (A ++ B ++ [e]) f' Z' ∧ (∀ y, (f' y).at_ = (f y).at_) ∧ Z' e = zs ∧ ∀ y, y ≠ e → Z' y = Z y) ∧ But X w w' ∧ Own w' g 512 cap zs := by
  obtain ⟨D, hm, hD⟩ := h.map
  have hkey : keyOf Try.prog 3 (.int .i64 (f e).at_) = some (.int .i64 (f e).at_) := Maps.keyOf_int_mk Try.underlying3 hat
  have heV : e ∈ r :: (A ++ e :: B) := by simp
  obtain ⟨hhas, hatk⟩ := hD.hit e (by simp)
  obtain ⟨x0, x1, x2, x3, x4, x5⟩ := h.blk.cells
  have e1c := (h.ens e heV).cells.2.1
  have e1f := (h.ens e heV).frozen 1
  obtain ⟨w1, hw1⟩ : ∃ w1, w1 = w.setCell ⟨e, 1, none⟩ (.slice (some ⟨g, 0, none⟩) 512 cap) := ⟨_, rfl⟩
  have h1 : Ens w1 (fun y => y ∈ r :: (A ++ e :: B)) (setDv f e (.slice (some ⟨g, 0, none⟩) 512 cap)) := by rw [hw1]; exact h.ens.setD heV _
  have r1 : Rg (setDv f e (.slice (some ⟨g, 0, none⟩) 512 cap)) r (A ++ e :: B) := h.ring.congr (fun y _ => ⟨(setDv_same f e _ y).2.1, (setDv_same f e _ y).2.2⟩)
  obtain ⟨r2, m1, m2⟩ := r1.unl
  have nce : e ≠ c := h.blk.ne_ent (h.ens e heV)
  have b1 : But (fun y => y = e) w w1 := by rw [hw1]; exact (But.refl (fun y => y = e) w).setCell (p := ⟨e, 1, none⟩) (show (fun y => y = e) e from rfl) _
  have hcl := h.blk.lt
  have cb1 : Cab w1 c p room r mp hi mi := (b1.block c hcl (fun q => nce q.symm)).trans h.blk
  have nen : e ∉ r :: (A ++ B) := by
    have hn := h.ring.1
    have hn2 : ((r :: A) ++ e :: B).Nodup := by simpa using hn
    obtain ⟨_, n2, n3⟩ := List.nodup_append.1 hn2
    intro hq
    simp at hq
    rcases hq with q | q | q
    · exact n3 r (by simp) e (by simp) q.symm
    · exact n3 e (by simp [q]) e (by simp) rfl
    · exact (List.nodup_cons.1 n2).1 q
  have hbf : (setDv f e (.slice (some ⟨g, 0, none⟩) 512 cap) e).bf ∈ r :: (A ++ e :: B) := by rcases m1 with q | q; rw [q]; simp; simp [q]
  have haf : (setDv f e (.slice (some ⟨g, 0, none⟩) 512 cap) e).af ∈ r :: (A ++ e :: B) := by rcases m2 with q | q; rw [q]; simp; simp [q]
  have hbr : (unl (setDv f e (.slice (some ⟨g, 0, none⟩) 512 cap)) e r).bf ∈ r :: (A ++ e :: B) := by
    have := r2.bfr
    simp at this ⊢
    rcases this with q | q | q
    · exact .inl q
    · exact .inr (.inl q)
    · exact .inr (.inr (.inr q))
  have HML := hid (makeLatest_any h1 (c := c) cb1.cells.2.2.1 (fun hv => cb1.ne_ent (h1 c hv) rfl) cb1.lt heV hbf haf (by simp) hbr)
  have hml := ownsMap_lt hm
  have nem : e ≠ mp := ent_ne_map hm (h.ens e heV)
  have hVm : ¬ mp ∈ r :: (A ++ e :: B) := fun hv => ent_ne_map hm (h.ens mp hv) rfl
  have hVc : ¬ c ∈ r :: (A ++ e :: B) := fun hv => h.blk.ne_ent (h.ens c hv) rfl
  have H := hid (And.intro h (And.intro hD (And.intro r2 nen)))
  have HF : Hid (∀ w2, Ens w2 (fun y => y ∈ r :: (A ++ e :: B)) (lnk (unl (setDv f e (.slice (some ⟨g, 0, none⟩) 512 cap)) e) e r) → But (fun y => y ∈ r :: (A ++ e :: B)) w1 w2 → w2.ownsMap Try.prog 3 ptrElem mp n D ∧ Cab w2 c p room r mp hi mi ∧ (∃ f' Z', Ca X w2 c p room r mp n hi mi (A ++ B ++ [e]) f' Z' ∧ (∀ y, (f' y).at_ = (f y).at_) ∧ Z' e = zs ∧ ∀ y, y ≠ e → Z' y = Z y) ∧ But X w w2 ∧ Own w2 g 512 cap zs) := fun w2 h2 b2 => by
    have b12 : But (fun y => y ∈ r :: (A ++ e :: B)) w w2 := (b1.mono (fun y _ q => by rw [q]; exact heV)).trans b2
    have hm2 := ownsMap_keep hm (b12.block mp hml hVm)
    have hc2 : Cab w2 c p room r mp hi mi := (b12.block c hcl hVc).trans h.blk
    have hae : ∀ y, (lnk (unl (setDv f e (.slice (some ⟨g, 0, none⟩) 512 cap)) e) e r y).at_ = (f y).at_ := fun y => by rw [(lnk_same _ _ _ _).1, (unl_same _ _ _).1, (setDv_same _ _ _ _).1]
    have hde : ∀ y, (lnk (unl (setDv f e (.slice (some ⟨g, 0, none⟩) 512 cap)) e) e r y).dv = (setDv f e (.slice (some ⟨g, 0, none⟩) 512 cap) y).dv := fun y => by rw [(lnk_same _ _ _ _).2, (unl_same _ _ _).2]
    have mem : ∀ y, y ∈ A ++ B ++ [e] ↔ y ∈ A ++ e :: B := fun y => by
      simp only [List.mem_append, List.mem_cons, or_false, List.not_mem_nil]
      constructor <;> (intro q; rcases q with q | q) <;> first | (rcases q with q | q <;> simp [q]) | simp [q]
    have t5 : ∀ g' cap' zs', Own w g' 512 cap' zs' → Own w2 g' 512 cap' zs' := fun g' cap' zs' ho => ho.keep (b12.block g' ho.lt (fun hv => by
      obtain ⟨cur, hk⟩ := ho.kind
      have := h.ens g' hv
      unfold EnB at this
      rw [hk] at this
      cases this))
    refine ⟨hm2, hc2, ⟨_, fun y => if y = e then zs else Z y, ⟨hc2, fun y hy => h2 y ?_, r2.lnk nen, ⟨D, hm2, hD.congr mem (by simp) (fun y _ => hae y)⟩, fun y hy => ?_, h.xc, h.xm, fun y hy => h.xe y ?_⟩, hae, if_pos rfl, fun y hy => if_neg hy⟩, b12.mono (fun y _ hy => h.xe y hy), t5 g cap zs hO⟩
    · rcases List.mem_cons.1 hy with q | q
      · rw [q]; simp
      · exact List.mem_cons_of_mem _ ((mem y).1 q)
    · by_cases q : y = e
      · subst q
        exact ⟨g, cap, by rw [hde, setDv_at], by show Own w2 g 512 cap (if y = y then zs else Z y); rw [if_pos rfl]; exact t5 g cap zs hO, by show Pl.isB (if y = y then zs else Z y); rw [if_pos rfl]; exact hb, hX⟩
      · obtain ⟨g', cap', q1, q2, q3, q4⟩ := h.dat y ((mem y).1 hy)
        exact ⟨g', cap', by rw [hde, setDv_ne f _ q]; exact q1, by show Own w2 g' 512 cap' (if y = e then zs else Z y); rw [if_neg q]; exact t5 g' cap' _ q2, by show Pl.isB (if y = e then zs else Z y); rw [if_neg q]; exact q3, q4⟩
    · rcases List.mem_cons.1 hy with q | q
      · rw [q]; simp
      · exact List.mem_cons_of_mem _ ((mem y).1 q)
  have hsz := hD.size
  generalize (f e).at_ = x at *
  generalize (f e).dv = od at *
  clear h1 r1 r2 m1 m2 cb1 b1 hbf haf hbr h hD hO
  go_enter Try.func29, Try.ntmps29
  go_wp2_with (at_lookup; refine wpList_lookup_own_ok _ rfl _ _ 46 rfl 3 45 law3 Try.underlying46 ptrElem (zero45 _) .nil [] rfl mp n D rfl hm _ _ rfl hkey ?_; intro v ps hv; rw [hatk .nil] at hv; obtain rfl := ptrElem_inv hv; rw [hhas])
  rw [← hw1]
  refine Calls.mono HML.out ?_
  rintro q w2 ⟨rfl, h2, b2⟩
  obtain ⟨hm2, hc2, hca, hbx, hox⟩ := HF.out w2 h2 b2
  obtain ⟨y0, y1, y2, y3, y4, y5⟩ := hc2.cells
  have hlen := fun ty => World.ownsMap.len hm2 Try.underlying46 ty
  have hlend := fun ty => World.ownsMap.len (ownsMap_keep (w' := w2.drew) hm2 rfl) Try.underlying46 ty
  rw [hsz] at hlen hlend
  generalize (A ++ e :: B).length = ln at *
  have hnr : ¬ ((room : Int) < (ln : Int)) := by omega
  have FIN := hid (And.intro hca (And.intro hbx hox))
  clear HML HF h2 b2 hca hbx hox hc2 hm2 x0 x1 x2 x3 x4 x5 e1c e1f hhas hatk
  go_wp2_with fail
  go_region
  all_goals go_wp2
  all_goals
    go_end0
    obtain ⟨f', Z', q1, q2⟩ := FIN.out.1
    exact ⟨rfl, ⟨f', Z', q1.drew, q2⟩, FIN.out.2.1.drew, FIN.out.2.2⟩

end Go.Proofs.Ytokgfnfgpjkpjaa
