import Derived.Test.YtddddfankeepkaaGreatDoorF05
import Derived.Shelf.Spec.SlicesInsert
namespace Go.Proofs.YtddddfankeepkaaGreatDoor
open Go.RowKit
theorem info38z : (Tryz.prog.info? 38).map (·.size) = some 7 := by kernel_rfl
theorem run_sizeOf38 (w : World) : (Go.sizeOf 38).run Tryz.prog w = .ok 7 w := by
 obtain ⟨i0, hi, _, hz1, _⟩ := info_parts info30
 simp [sizeOf, typeInfo, hi, hz1]
def InsQ (B : Nat) (w : World) (v : Value) (n : Nat) (ys : List Value) (e : Ending) (w' : World) : Prop := ∃ v', e = .returned v' ∧ w'.ownsRow B 38 7 v' n ys ∧ w.grownBy w' v.ownBlock
set_option maxRecDepth 100000 in
set_option maxHeartbeats 4000000 in
theorem InsV_end (B n h : Nat) (v : Value) (xs news : List Value) (w : World) (hown : w.ownsRow B 38 7 v n xs) (hh : w.heap[h]? = some (.cells news.toArray 38 (0, 0))) (hnl : news.length = 7) (h1 : ∀ u ∈ news, u.oneCell' = true) (hn : n ≤ 16777216) (hB : B ≤ w.heap.size) :
  Calls Tryz.prog 117 #[v, .int .i64 (n : Int), .slice (some ⟨h, 0, none⟩) 1 1] w fun e w' => InsQ B w v (n + 1) (xs ++ news) e w' := by
 obtain ⟨i0, hi, hz0, hz1, hz2⟩ := info_parts info30
 obtain ⟨v', w', hr, ho, hg, _, _⟩ := run_append_own_at (P := Tryz.prog) w B 22 22 38 i0 _ 7 80 Tryz.underlying22 hi hz0 hz1 hz2 rfl (by decide) v n xs hown ⟨h, 0, none⟩ 1 1 news (by omega) (fun j u hu => by
  rw [Addr.add_lit, Nat.zero_add]
  simp only [World.cell?, hh]
  simpa using hu) h1 (by unfold maxLen; omega) (by omega) hB
 have HO := hid ho
 have HG := hid hg
 obtain ⟨a, c, rfl, hac⟩ : ∃ a c, v = .slice a n c ∧ n ≤ c := by
  rcases hown.2 with ⟨e, q⟩ | ⟨g', cap, cur, e, hb, hh', r1, r⟩
  ·exact ⟨none, 0, by rw [e, q], by omega⟩
  ·exact ⟨_, cap, e, r1⟩
 clear hown ho hg hh h1 hnl hB
 have hac' : (n : Int) ≤ (c : Int) := by omega
 go_enter Tryz.func117, Tryz.ntmps117
 cases a with
 | none =>
  go_wp2_with (at_builtin; refine Lib.wpList_append_run _ rfl _ _ _ _ rfl _ _ rfl rfl _ _ hr ?_)
  all_goals (go_ret; exact ⟨v', rfl, HO.out, HG.out⟩)
 | some ad =>
  obtain ⟨ab, ao, asp⟩ := ad
  go_wp2_with (at_builtin; refine Lib.wpList_append_run _ rfl _ _ _ _ rfl _ _ rfl rfl _ _ hr ?_)
  all_goals (go_ret; exact ⟨v', rfl, HO.out, HG.out⟩)
theorem shape_cells {w : World} {g : Nat} {cs : Array Value} {t : TypeId} {fr : Nat × Nat} (h : w.heap[g]? = some (.cells cs t fr)) : w.shape? g = some (t, cs.size) := by
 simp [World.shape?, h]
set_option maxRecDepth 100000 in
set_option maxHeartbeats 4000000 in
theorem InsV_shift (B n cap g h i : Nat) (xs sp news : List Value) (w : World) (hi : i < n) (hroom : n + 1 ≤ cap) (hcap : cap ≤ maxLen) (hg : w.heap[g]? = some (.cells (xs ++ sp).toArray 38 (0, 0))) (hBg : B ≤ g) (hxl : xs.length = n * 7) (hsl : (xs ++ sp).length = cap * 7) (hh : w.heap[h]? = some (.cells news.toArray 38 (0, 0))) (hne : h ≠ g) (hnl : news.length = 7) (h1 : ∀ u ∈ news, u.oneCell' = true) (h1x : ∀ u ∈ xs, u.oneCell' = true) (hn : n ≤ 16777216) :
  Calls Tryz.prog 117 #[.slice (some ⟨g, 0, none⟩) n cap, .int .i64 (i : Int), .slice (some ⟨h, 0, none⟩) 1 1] w fun e w' => InsQ B w (.slice (some ⟨g, 0, none⟩) n cap) (n + 1) (xs.take (i * 7) ++ news ++ xs.drop (i * 7)) e w' := by
 have hov : ∀ lb cb, (callFunc 134 #[.slice (some ⟨h, 0, none⟩) 1 1, .slice (some ⟨g, (i + 1) * 7, none⟩) lb cb]).run Tryz.prog w = .ok (.value (.bool false)) w := fun lb cb => by
  rw [run_callFunc_extern Tryz.func134 (by kernel_rfl) (by kernel_rfl) (by kernel_rfl) (e := Extern.SlicesOverlaps.overlaps #[22, 22] #[4]) (by kernel_rfl),
   Lib.run_overlaps_apart w 22 4 38 Tryz.underlying22 7 run_sizeOf38 ⟨h, 0, none⟩ ⟨g, (i + 1) * 7, none⟩ 1 1 lb cb hne 38 38 _ _ (shape_cells hh) (shape_cells hg) (by rw [List.size_toArray, hsl]; omega) (by simp [World.frozen?, hh]) (by simp [World.frozen?, hh])]
  rfl
 have hsl' : xs.length + sp.length = cap * 7 := by simpa using hsl
 have hdl : (xs.drop (i * 7)).length = (n - i) * 7 := by rw [List.length_drop, hxl]; omega
 have hcp1 : ∀ dc sc, (Builtin.copy_ #[22, 22] 3 #[.slice (some ⟨g, (i + 1) * 7, none⟩) (n - i) dc, .slice (some ⟨g, i * 7, none⟩) (n + 1 - i) sc]).run Tryz.prog w.drew = .ok (goInt ((n - i : Nat) : Int)) (w.drew.setRow g ((xs ++ sp).take (i * 7 + 7) ++ xs.drop (i * 7) ++ (xs ++ sp).drop (i * 7 + 7 + (xs.drop (i * 7)).length)).toArray) := fun dc sc => by
  have hm : Nat.min (n + 1 - i) (n - i) = n - i := Nat.min_eq_right (by omega)
  have := run_copy_wide (P := Tryz.prog) w.drew 22 22 3 38 g ((i + 1) * 7) (n - i) dc ⟨g, i * 7, none⟩ (n + 1 - i) sc 7 (xs ++ sp).toArray 38 (xs.drop (i * 7)) Tryz.underlying22 info38z hg (by rw [hdl, hm]) (fun j u hu => by
   rw [Addr.add_lit]
   rw [List.getElem?_drop] at hu
   show w.cell? _ = _
   simp only [World.cell?, hg]
   rw [List.getElem?_toArray, List.getElem?_append_left (by have := (List.getElem?_eq_some_iff.1 hu).1; exact this)]
   simpa using hu) (by simp only [List.size_toArray, hsl, hdl]; omega) (fun u hu => h1x u (List.mem_of_mem_drop hu))
  rw [hm, show (i + 1) * 7 = i * 7 + 7 by omega] at this
  rw [show (i + 1) * 7 = i * 7 + 7 by omega]
  simpa only [List.toList_toArray] using this
 obtain ⟨L1, hL1⟩ : ∃ L1, L1 = (xs ++ sp).take (i * 7 + 7) ++ xs.drop (i * 7) ++ (xs ++ sp).drop (i * 7 + 7 + (xs.drop (i * 7)).length) := ⟨_, rfl⟩
 rw [← hL1] at hcp1
 obtain ⟨W1, hW1⟩ : ∃ W1, W1 = w.drew.setRow g L1.toArray := ⟨_, rfl⟩
 have hg1 : W1.heap[g]? = some (.cells L1.toArray 38 (0, 0)) := by rw [hW1]; exact setRow_heap w.drew g _ _ 38 _ hg
 have hh1 : W1.heap[h]? = some (.cells news.toArray 38 (0, 0)) := by rw [hW1, setRow_other w.drew g h _ hne]; exact hh
 have hl1 : L1.length = cap * 7 := by
  rw [hL1]
  simp only [List.length_append, List.length_take, List.length_drop]
  omega
 obtain ⟨L2, hL2⟩ : ∃ L2, L2 = L1.take (i * 7) ++ news ++ L1.drop (i * 7 + news.length) := ⟨_, rfl⟩
 have hcp2 : ∀ dc, (Builtin.copy_ #[22, 22] 3 #[.slice (some ⟨g, i * 7, none⟩) (n + 1 - i) dc, .slice (some ⟨h, 0, none⟩) 1 1]).run Tryz.prog W1 = .ok (goInt 1) (W1.setRow g L2.toArray) := fun dc => by
  have hm : Nat.min 1 (n + 1 - i) = 1 := Nat.min_eq_left (by omega)
  have := run_copy_wide (P := Tryz.prog) W1 22 22 3 38 g (i * 7) (n + 1 - i) dc ⟨h, 0, none⟩ 1 1 7 L1.toArray 38 news Tryz.underlying22 info38z hg1 (by rw [hnl, hm]) (fun j u hu => by
   rw [Addr.add_lit, Nat.zero_add]
   simp only [World.cell?, hh1]
   simpa using hu) (by simp only [List.size_toArray, hl1, hnl]; omega) h1
  rw [hm] at this
  rw [hL2]
  exact this
 have hfin := ins_list xs sp news (i * 7) 7 (by omega) hnl (by omega) L1 L2 hL1 hL2
 have HQ : Hid (∀ y, y = W1.setRow g L2.toArray → y.ownsRow B 38 7 (.slice (some ⟨g, 0, none⟩) (n + 1) cap) (n + 1) (xs.take (i * 7) ++ news ++ xs.drop (i * 7)) ∧ w.grownBy y (some g)) := fun y hy => by
  have e0 : (xs.take (i * 7) ++ news ++ xs.drop (i * 7)).length = (n + 1) * 7 := by simp; omega
  refine ⟨⟨e0, .inr ⟨g, cap, L2.toArray, rfl, hBg, by rw [hy]; exact setRow_heap W1 g _ _ 38 _ hg1, hroom, hcap, ?_, ?_⟩⟩, ?_⟩
  ·rw [List.size_toArray, hfin]
   simp only [List.length_append, List.length_take, List.length_drop]
   omega
  ·show L2.take _ = _
   rw [hfin]
   exact List.take_left' e0
  ·rw [hy, hW1]
   exact ⟨rfl, rfl, rfl, by simp [World.setRow], fun k _ hk => (setRow_other _ g k _ (fun e => hk (by rw [e]))).trans (setRow_other w.drew g k _ (fun e => hk (by rw [e])))⟩
 have HW1 := hid hW1
 rw [← hW1] at hcp1
 clear hfin hL1 hL2 hg hh hg1 hh1 h1 h1x hl1 hsl hsl' hxl hnl hne hW1
 have hz2 : ¬ ((i : Int) = (n : Int)) := by omega
 have hr2 : ¬ ((cap : Int) < (n : Int) + 1) := by omega
 have hb4 : ¬ (cap = i) := by omega
 have hb2 : ¬ (cap = i + 1) := by omega
 have hb3 : (i : Int) ≤ (n : Int) + 1 := by omega
 have hb5 : (i : Int) + 1 ≤ (n : Int) + 1 := by omega
 have hb6 : (n : Int) + 1 ≤ (cap : Int) := by omega
 have hin : (i : Int) ≤ (n : Int) := by omega
 have mixed : Tryz.prog.follows Departure.mixedOrders = true := by kernel_rfl
 have hw1 : IntKind.i64.wrap ((i : Int) + 1) = (i : Int) + 1 := by rw [IntKind.wrap_i64]; omega
 have htn : ((i : Int) + 1).toNat = i + 1 := by omega
 have hb1 : (0 : Int) ≤ (i : Int) + 1 := by omega
 go_enter Tryz.func117, Tryz.ntmps117
 go_wp2_with (simp only [hov])
 go_region_law_o (refine step_copy_runI rfl _ _ 22 22 rfl _ _ (by simp [Act.eval, Act.put]) (by simp [Act.eval, Act.put]) (hcp1 _ _) ?_)
 go_wp2_with (at_builtin; refine wpList_copy_runI _ rfl _ _ 22 22 rfl _ _ rfl rfl (hcp2 _) ?_)
 go_ret
 exact ⟨_, rfl, (HQ.out _ rfl).1, (HQ.out _ rfl).2⟩
set_option maxRecDepth 100000 in
set_option maxHeartbeats 4000000 in
theorem InsV_grow (B n cap g h i : Nat) (xs sp news : List Value) (w : World) (hi : i < n) (hnc : n ≤ cap) (hroom : cap < n + 1) (hg : w.heap[g]? = some (.cells (xs ++ sp).toArray 38 (0, 0))) (hxl : xs.length = n * 7) (hh : w.heap[h]? = some (.cells news.toArray 38 (0, 0))) (hnl : news.length = 7) (h1 : ∀ u ∈ news, u.oneCell' = true) (h1x : ∀ u ∈ xs, u.oneCell' = true) (hn : n ≤ 16777216) (hB : B ≤ w.heap.size) :
  Calls Tryz.prog 117 #[.slice (some ⟨g, 0, none⟩) n cap, .int .i64 (i : Int), .slice (some ⟨h, 0, none⟩) 1 1] w fun e w' => InsQ B w (.slice (some ⟨g, 0, none⟩) n cap) (n + 1) (xs.take (i * 7) ++ news ++ xs.drop (i * 7)) e w' := by
 obtain ⟨i0, hi0, hz0, hz1, hz2⟩ := info_parts info30
 have hlg : g < w.heap.size := (Array.getElem?_eq_some_iff.1 hg).1
 have hlh : h < w.heap.size := (Array.getElem?_eq_some_iff.1 hh).1
 have hdl : (xs.drop (i * 7)).length = (n - i) * 7 := by rw [List.length_drop, hxl]; omega
 have htl : (xs.take (i * 7)).length = i * 7 := by rw [List.length_take, hxl]; omega
 have r1 := run_append_zeros_grow (P := Tryz.prog) w 22 3 22 38 i0 _ .i64 .i64 Tryz.underlying22 Tryz.underlying3 hi0 hz0 g i (n + 1 - i) cap (xs.take (i * 7)) (by rw [htl, hz1]) (fun j u hu => by
  rw [Addr.add_lit, Nat.zero_add]
  have hj := (List.getElem?_eq_some_iff.1 hu).1
  rw [List.getElem?_take_of_lt (by rw [htl] at hj; exact hj)] at hu
  simp only [World.cell?, hg]
  rw [List.getElem?_toArray, List.getElem?_append_left (List.getElem?_eq_some_iff.1 hu).1]
  simpa using hu) (by omega) (by omega) (by omega) (by omega) (by rw [hz2]; omega)
 rw [show i + (n + 1 - i) = n + 1 by omega, show (((n + 1 - i : Nat)) : Int) = (n : Int) + 1 - (i : Int) by omega] at r1
 have hCge := grownCap_ge w (n + 1) cap 38
 have hCle := grownCap_le_maxLen w (n + 1) cap 38 (by unfold maxLen; omega)
 generalize hC : grownCap w (n + 1) cap 38 = C at *
 obtain ⟨L0, hL0⟩ : ∃ L0, L0 = xs.take (i * 7) ++ (Builtin.zeroCells (Value.agg #[.string ByteArray.empty, .int .i64 0, .int .i64 0, .int .i64 0, .int .i64 0, .bool false, .slice none 0 0]).cells (n + 1 - i)).toList ++ (Builtin.zeroCells (Value.agg #[.string ByteArray.empty, .int .i64 0, .int .i64 0, .int .i64 0, .int .i64 0, .bool false, .slice none 0 0]).cells (C - (n + 1))).toList := ⟨_, rfl⟩
 obtain ⟨W1, hW1⟩ : ∃ W1, W1 = w.drew.alloc (.cells L0.toArray 38) := ⟨_, rfl⟩
 have r1' : (Builtin.append_ #[22, 3] 22 #[.slice (some ⟨g, 0, none⟩) i cap, .int .i64 ((n : Int) + 1 - (i : Int))]).run Tryz.prog w = .ok (.slice (some ⟨w.heap.size, 0, none⟩) (n + 1) C) W1 := by
  rw [r1, hW1, hL0]
  congr 3
  apply Array.ext'
  simp
 clear r1
 obtain ⟨G, hG⟩ : ∃ G, G = w.heap.size := ⟨_, rfl⟩
 have hzl : (Builtin.zeroCells (Value.agg #[.string ByteArray.empty, .int .i64 0, .int .i64 0, .int .i64 0, .int .i64 0, .bool false, .slice none 0 0]).cells (n + 1 - i)).toList.length = (n + 1 - i) * 7 := by
  rw [Array.length_toList, size_zeroCells]; rfl
 have hzr : (Builtin.zeroCells (Value.agg #[.string ByteArray.empty, .int .i64 0, .int .i64 0, .int .i64 0, .int .i64 0, .bool false, .slice none 0 0]).cells (C - (n + 1))).toList.length = (C - (n + 1)) * 7 := by
  rw [Array.length_toList, size_zeroCells]; rfl
 have hl0 : L0.length = C * 7 := by
  rw [hL0]
  simp only [List.length_append, htl, hzl, hzr]
  omega
 have hg1 : W1.heap[G]? = some (.cells L0.toArray 38 (0, 0)) := by rw [hW1, hG]; exact heap_new _ _
 have hb1 : ∀ k, k < w.heap.size → W1.heap[k]? = w.heap[k]? := fun k hk => by rw [hW1]; exact Below.heap_alloc w.drew _ _ hk
 obtain ⟨L1, hL1⟩ : ∃ L1, L1 = L0.take (i * 7) ++ news ++ L0.drop (i * 7 + news.length) := ⟨_, rfl⟩
 have hl1 : L1.length = C * 7 := by
  rw [hL1]
  simp only [List.length_append, List.length_take, List.length_drop]
  omega
 have hcp1 : ∀ dc, (Builtin.copy_ #[22, 22] 3 #[.slice (some ⟨G, i * 7, none⟩) (n + 1 - i) dc, .slice (some ⟨h, 0, none⟩) 1 1]).run Tryz.prog W1 = .ok (goInt 1) (W1.setRow G L1.toArray) := fun dc => by
  have hm : Nat.min 1 (n + 1 - i) = 1 := Nat.min_eq_left (by omega)
  have := run_copy_wide (P := Tryz.prog) W1 22 22 3 38 G (i * 7) (n + 1 - i) dc ⟨h, 0, none⟩ 1 1 7 L0.toArray 38 news Tryz.underlying22 info38z hg1 (by rw [hnl, hm]) (fun j u hu => by
   rw [Addr.add_lit, Nat.zero_add]
   simp only [World.cell?, hb1 h hlh, hh]
   simpa using hu) (by simp only [List.size_toArray, hl0, hnl]; omega) h1
  rw [hm] at this
  rw [hL1]
  exact this
 obtain ⟨W2, hW2⟩ : ∃ W2, W2 = W1.setRow G L1.toArray := ⟨_, rfl⟩
 have hg2 : W2.heap[G]? = some (.cells L1.toArray 38 (0, 0)) := by rw [hW2]; exact setRow_heap W1 G _ _ 38 _ hg1
 have hb2 : ∀ k, k < w.heap.size → W2.heap[k]? = w.heap[k]? := fun k hk => by rw [hW2, setRow_other W1 G k _ (by omega)]; exact hb1 k hk
 obtain ⟨L2, hL2⟩ : ∃ L2, L2 = L1.take (i * 7 + 7) ++ xs.drop (i * 7) ++ L1.drop (i * 7 + 7 + (xs.drop (i * 7)).length) := ⟨_, rfl⟩
 have hcp2 : ∀ dc sc, (Builtin.copy_ #[22, 22] 3 #[.slice (some ⟨G, (i + 1) * 7, none⟩) (n - i) dc, .slice (some ⟨g, i * 7, none⟩) (n - i) sc]).run Tryz.prog W2.drew = .ok (goInt ((n - i : Nat) : Int)) (W2.drew.setRow G L2.toArray) := fun dc sc => by
  have hm : Nat.min (n - i) (n - i) = n - i := Nat.min_self _
  have := run_copy_wide (P := Tryz.prog) W2.drew 22 22 3 38 G ((i + 1) * 7) (n - i) dc ⟨g, i * 7, none⟩ (n - i) sc 7 L1.toArray 38 (xs.drop (i * 7)) Tryz.underlying22 info38z hg2 (by rw [hdl, hm]) (fun j u hu => by
   rw [Addr.add_lit]
   rw [List.getElem?_drop] at hu
   show W2.cell? _ = _
   simp only [World.cell?, hb2 g hlg, hg]
   rw [List.getElem?_toArray, List.getElem?_append_left (List.getElem?_eq_some_iff.1 hu).1]
   simpa using hu) (by simp only [List.size_toArray, hl1, hdl]; omega) (fun u hu => h1x u (List.mem_of_mem_drop hu))
  rw [hm, show (i + 1) * 7 = i * 7 + 7 by omega] at this
  rw [show (i + 1) * 7 = i * 7 + 7 by omega, hL2]
  simpa only [List.toList_toArray] using this
 have hfin := grow_list xs _ _ news (i * 7) 7 (by omega) hnl (by rw [hzl, hxl]; omega) L0 L1 L2 hL0 hL1 hL2
 have HQ : Hid (∀ y, y = W2.drew.setRow G L2.toArray → y.ownsRow B 38 7 (.slice (some ⟨G, 0, none⟩) (n + 1) C) (n + 1) (xs.take (i * 7) ++ news ++ xs.drop (i * 7)) ∧ w.grownBy y (some g)) := fun y hy => by
  have e0 : (xs.take (i * 7) ++ news ++ xs.drop (i * 7)).length = (n + 1) * 7 := by simp only [List.length_append, htl, hdl, hnl]; omega
  have hs2 : W2.heap.size = w.heap.size + 1 := by rw [hW2, hW1]; simp [World.setRow]
  refine ⟨⟨e0, .inr ⟨G, C, L2.toArray, rfl, by omega, by rw [hy]; exact setRow_heap W2.drew G _ _ 38 _ hg2, hCge, hCle, ?_, ?_⟩⟩, ?_⟩
  ·rw [List.size_toArray, hfin, List.length_append, e0, hzr]
   omega
  ·show L2.take _ = _
   rw [hfin]
   exact List.take_left' e0
  ·rw [hy]
   refine ⟨by rw [hW2, hW1]; rfl, by rw [hW2, hW1]; rfl, by rw [hW2, hW1]; rfl, by show w.heap.size ≤ (W2.drew.setRow G L2.toArray).heap.size; simp [World.setRow]; show w.heap.size ≤ W2.heap.size; omega, fun k hk _ => ?_⟩
   rw [setRow_other W2.drew G k _ (by omega)]
   exact hb2 k hk
 have HG := hid hG
 rw [← hG] at r1'
 rw [← hW2] at hcp1
 clear hfin hL0 hL1 hL2 hg hh hg1 hg2 hb1 hb2 h1 h1x hl0 hl1 hxl hnl hzl hzr hW1 hW2 hC hi0 hz0 hz1 hz2 hdl htl hG hlg hlh
 have hz2 : ¬ ((i : Int) = (n : Int)) := by omega
 have hr2 : (cap : Int) < (n : Int) + 1 := by omega
 have hb4 : ¬ (cap = i) := by omega
 have hc4 : ¬ (C = i) := by omega
 have hb2 : ¬ (C = i + 1) := by omega
 have hb3 : (i : Int) ≤ (n : Int) + 1 := by omega
 have hb5 : (i : Int) + 1 ≤ (n : Int) + 1 := by omega
 have hin : (i : Int) ≤ (n : Int) := by omega
 have hic : (i : Int) ≤ (cap : Int) := by omega
 have mixed : Tryz.prog.follows Departure.mixedOrders = true := by kernel_rfl
 have hw1 : IntKind.i64.wrap ((i : Int) + 1) = (i : Int) + 1 := by rw [IntKind.wrap_i64]; omega
 have hw2 : IntKind.i64.wrap ((n : Int) + 1 - (i : Int)) = (n : Int) + 1 - (i : Int) := by rw [IntKind.wrap_i64]; omega
 have htn : ((i : Int) + 1).toNat = i + 1 := by omega
 have hb1 : (0 : Int) ≤ (i : Int) + 1 := by omega
 go_enter Tryz.func117, Tryz.ntmps117
 go_wp2_with (first | (at_builtin; refine Lib.wpList_append_run _ rfl _ _ _ _ rfl _ _ rfl rfl _ _ r1' ?_) | (at_builtin; refine wpList_copy_runI _ rfl _ _ 22 22 rfl _ _ rfl rfl (hcp1 _) ?_))
 go_region_law_o (refine step_copy_runI rfl _ _ 22 22 rfl _ _ (by simp [Act.eval, Act.put]) (by simp [Act.eval, Act.put]) (hcp2 _ _) ?_)
 go_wp2
 go_ret
 exact ⟨_, rfl, (HQ.out _ rfl).1, (HQ.out _ rfl).2⟩
theorem InsV_any (B n h i : Nat) (v : Value) (xs news : List Value) (w : World) (hown : w.ownsRow B 38 7 v n xs) (hh : w.heap[h]? = some (.cells news.toArray 38 (0, 0))) (hne : v.ownBlock ≠ some h) (hnl : news.length = 7) (h1 : ∀ u ∈ news, u.oneCell' = true) (h1x : ∀ u ∈ xs, u.oneCell' = true) (hi : i ≤ n) (hn : n ≤ 16777216) (hB : B ≤ w.heap.size) :
  Calls Tryz.prog 117 #[v, .int .i64 (i : Int), .slice (some ⟨h, 0, none⟩) 1 1] w fun e w' => InsQ B w v (n + 1) (xs.take (i * 7) ++ news ++ xs.drop (i * 7)) e w' := by
 by_cases e : i = n
 ·subst e
  have := InsV_end B i h v xs news w hown hh hnl h1 hn hB
  rw [List.take_of_length_le (by rw [hown.1]; exact Nat.le_refl _), List.drop_of_length_le (by rw [hown.1]; exact Nat.le_refl _), List.append_nil]
  exact this
 ·rcases hown.2 with ⟨_, q⟩ | ⟨g, cap, cur, rfl, hBg, hg, hnc, hcm, hcs, htk⟩
  ·omega
  ·have hne' : h ≠ g := fun e => hne (by rw [e]; rfl)
   have hcur : cur = (xs ++ cur.toList.drop (n * 7)).toArray := by
    apply Array.ext'
    rw [← htk]
    simp
   have hlen : (xs ++ cur.toList.drop (n * 7)).length = cap * 7 := by
    rw [← htk, List.take_append_drop, Array.length_toList, hcs]
   rw [hcur] at hg
   by_cases hr : n + 1 ≤ cap
   ·exact InsV_shift B n cap g h i xs _ news w (by omega) hr hcm hg hBg hown.1 hlen hh hne' hnl h1 h1x hn
   ·exact InsV_grow B n cap g h i xs _ news w (by omega) hnc (by omega) hg hown.1 hh hnl h1 h1x hn hB
end Go.Proofs.YtddddfankeepkaaGreatDoor
namespace Go.Proofs.YtddddfankeepkaaGreatDoor
open Go.RowKit
theorem info78zz : (Tryz.prog.info? 78).map (·.size) = some 2 := by kernel_rfl
theorem run_sizeOf78 (w : World) : (Go.sizeOf 78).run Tryz.prog w = .ok 2 w := by
 obtain ⟨i0, hi, _, hz1, _⟩ := info_parts info32
 simp [sizeOf, typeInfo, hi, hz1]
def OwnB (w : World) (v v' : Value) : Prop := ∀ b, v'.ownBlock = some b → v.ownBlock = some b ∨ w.heap.size ≤ b
theorem OwnB.of {w : World} {v v' : Value} (h : v'.ownBlock = v.ownBlock ∨ v'.ownBlock = some w.heap.size) : OwnB w v v' := fun b hb => by
 rcases h with h | h
 ·exact .inl (h ▸ hb)
 ·rw [hb] at h
  simp only [Option.some.injEq] at h
  exact .inr (by omega)
def InsP (B : Nat) (w : World) (v : Value) (n : Nat) (ys : List Value) (e : Ending) (w' : World) : Prop := ∃ v', e = .returned v' ∧ w'.ownsRow B 78 2 v' n ys ∧ w.grownBy w' v.ownBlock ∧ OwnB w v v'
set_option maxRecDepth 100000 in
set_option maxHeartbeats 4000000 in
theorem InsR_end (B n h : Nat) (v : Value) (xs news : List Value) (w : World) (hown : w.ownsRow B 78 2 v n xs) (hh : w.heap[h]? = some (.cells news.toArray 78 (0, 0))) (hnl : news.length = 2) (h1 : ∀ u ∈ news, u.oneCell' = true) (hn : n ≤ 16777216) (hB : B ≤ w.heap.size) :
  Calls Tryz.prog 128 #[v, .int .i64 (n : Int), .slice (some ⟨h, 0, none⟩) 1 1] w fun e w' => InsP B w v (n + 1) (xs ++ news) e w' := by
 obtain ⟨i0, hi, hz0, hz1, hz2⟩ := info_parts info32
 obtain ⟨v', w', hr, ho, hg, _, hob⟩ := run_append_own_at (P := Tryz.prog) w B 36 36 78 i0 _ 2 16 Tryz.underlying36 hi hz0 hz1 hz2 rfl (by decide) v n xs hown ⟨h, 0, none⟩ 1 1 news (by omega) (fun j u hu => by
  rw [Addr.add_lit, Nat.zero_add]
  simp only [World.cell?, hh]
  simpa using hu) h1 (by unfold maxLen; omega) (by omega) hB
 have HO := hid ho
 have HG := hid hg
 have HOB := hid (OwnB.of hob)
 clear hob
 obtain ⟨a, c, rfl, hac⟩ : ∃ a c, v = .slice a n c ∧ n ≤ c := by
  rcases hown.2 with ⟨e, q⟩ | ⟨g', cap, cur, e, hb, hh', r1, r⟩
  ·exact ⟨none, 0, by rw [e, q], by omega⟩
  ·exact ⟨_, cap, e, r1⟩
 clear hown ho hg hh h1 hnl hB
 have hac' : (n : Int) ≤ (c : Int) := by omega
 go_enter Tryz.func128, Tryz.ntmps128
 cases a with
 | none =>
  go_wp2_with (at_builtin; refine Lib.wpList_append_run _ rfl _ _ _ _ rfl _ _ rfl rfl _ _ hr ?_)
  all_goals (go_ret; exact ⟨v', rfl, HO.out, HG.out, HOB.out⟩)
 | some ad =>
  obtain ⟨ab, ao, asp⟩ := ad
  go_wp2_with (at_builtin; refine Lib.wpList_append_run _ rfl _ _ _ _ rfl _ _ rfl rfl _ _ hr ?_)
  all_goals (go_ret; exact ⟨v', rfl, HO.out, HG.out, HOB.out⟩)
set_option maxRecDepth 100000 in
set_option maxHeartbeats 4000000 in
theorem InsR_shift (B n cap g h i : Nat) (xs sp news : List Value) (w : World) (hi : i < n) (hroom : n + 1 ≤ cap) (hcap : cap ≤ maxLen) (hg : w.heap[g]? = some (.cells (xs ++ sp).toArray 78 (0, 0))) (hBg : B ≤ g) (hxl : xs.length = n * 2) (hsl : (xs ++ sp).length = cap * 2) (hh : w.heap[h]? = some (.cells news.toArray 78 (0, 0))) (hne : h ≠ g) (hnl : news.length = 2) (h1 : ∀ u ∈ news, u.oneCell' = true) (h1x : ∀ u ∈ xs, u.oneCell' = true) (hn : n ≤ 16777216) :
  Calls Tryz.prog 128 #[.slice (some ⟨g, 0, none⟩) n cap, .int .i64 (i : Int), .slice (some ⟨h, 0, none⟩) 1 1] w fun e w' => InsP B w (.slice (some ⟨g, 0, none⟩) n cap) (n + 1) (xs.take (i * 2) ++ news ++ xs.drop (i * 2)) e w' := by
 have hov : ∀ lb cb, (callFunc 129 #[.slice (some ⟨h, 0, none⟩) 1 1, .slice (some ⟨g, (i + 1) * 2, none⟩) lb cb]).run Tryz.prog w = .ok (.value (.bool false)) w := fun lb cb => by
  rw [run_callFunc_extern Tryz.func129 (by kernel_rfl) (by kernel_rfl) (by kernel_rfl) (e := Extern.SlicesOverlaps.overlaps #[36, 36] #[4]) (by kernel_rfl),
   Lib.run_overlaps_apart w 36 4 78 Tryz.underlying36 2 run_sizeOf78 ⟨h, 0, none⟩ ⟨g, (i + 1) * 2, none⟩ 1 1 lb cb hne 78 78 _ _ (shape_cells hh) (shape_cells hg) (by rw [List.size_toArray, hsl]; omega) (by simp [World.frozen?, hh]) (by simp [World.frozen?, hh])]
  rfl
 have hsl' : xs.length + sp.length = cap * 2 := by simpa using hsl
 have hdl : (xs.drop (i * 2)).length = (n - i) * 2 := by rw [List.length_drop, hxl]; omega
 have hcp1 : ∀ dc sc, (Builtin.copy_ #[36, 36] 3 #[.slice (some ⟨g, (i + 1) * 2, none⟩) (n - i) dc, .slice (some ⟨g, i * 2, none⟩) (n + 1 - i) sc]).run Tryz.prog w.drew = .ok (goInt ((n - i : Nat) : Int)) (w.drew.setRow g ((xs ++ sp).take (i * 2 + 2) ++ xs.drop (i * 2) ++ (xs ++ sp).drop (i * 2 + 2 + (xs.drop (i * 2)).length)).toArray) := fun dc sc => by
  have hm : Nat.min (n + 1 - i) (n - i) = n - i := Nat.min_eq_right (by omega)
  have := run_copy_wide (P := Tryz.prog) w.drew 36 36 3 78 g ((i + 1) * 2) (n - i) dc ⟨g, i * 2, none⟩ (n + 1 - i) sc 2 (xs ++ sp).toArray 78 (xs.drop (i * 2)) Tryz.underlying36 info78zz hg (by rw [hdl, hm]) (fun j u hu => by
   rw [Addr.add_lit]
   rw [List.getElem?_drop] at hu
   show w.cell? _ = _
   simp only [World.cell?, hg]
   rw [List.getElem?_toArray, List.getElem?_append_left (by have := (List.getElem?_eq_some_iff.1 hu).1; exact this)]
   simpa using hu) (by simp only [List.size_toArray, hsl, hdl]; omega) (fun u hu => h1x u (List.mem_of_mem_drop hu))
  rw [hm, show (i + 1) * 2 = i * 2 + 2 by omega] at this
  rw [show (i + 1) * 2 = i * 2 + 2 by omega]
  simpa only [List.toList_toArray] using this
 obtain ⟨L1, hL1⟩ : ∃ L1, L1 = (xs ++ sp).take (i * 2 + 2) ++ xs.drop (i * 2) ++ (xs ++ sp).drop (i * 2 + 2 + (xs.drop (i * 2)).length) := ⟨_, rfl⟩
 rw [← hL1] at hcp1
 obtain ⟨W1, hW1⟩ : ∃ W1, W1 = w.drew.setRow g L1.toArray := ⟨_, rfl⟩
 have hg1 : W1.heap[g]? = some (.cells L1.toArray 78 (0, 0)) := by rw [hW1]; exact setRow_heap w.drew g _ _ 78 _ hg
 have hh1 : W1.heap[h]? = some (.cells news.toArray 78 (0, 0)) := by rw [hW1, setRow_other w.drew g h _ hne]; exact hh
 have hl1 : L1.length = cap * 2 := by
  rw [hL1]
  simp only [List.length_append, List.length_take, List.length_drop]
  omega
 obtain ⟨L2, hL2⟩ : ∃ L2, L2 = L1.take (i * 2) ++ news ++ L1.drop (i * 2 + news.length) := ⟨_, rfl⟩
 have hcp2 : ∀ dc, (Builtin.copy_ #[36, 36] 3 #[.slice (some ⟨g, i * 2, none⟩) (n + 1 - i) dc, .slice (some ⟨h, 0, none⟩) 1 1]).run Tryz.prog W1 = .ok (goInt 1) (W1.setRow g L2.toArray) := fun dc => by
  have hm : Nat.min 1 (n + 1 - i) = 1 := Nat.min_eq_left (by omega)
  have := run_copy_wide (P := Tryz.prog) W1 36 36 3 78 g (i * 2) (n + 1 - i) dc ⟨h, 0, none⟩ 1 1 2 L1.toArray 78 news Tryz.underlying36 info78zz hg1 (by rw [hnl, hm]) (fun j u hu => by
   rw [Addr.add_lit, Nat.zero_add]
   simp only [World.cell?, hh1]
   simpa using hu) (by simp only [List.size_toArray, hl1, hnl]; omega) h1
  rw [hm] at this
  rw [hL2]
  exact this
 have hfin := ins_list xs sp news (i * 2) 2 (by omega) hnl (by omega) L1 L2 hL1 hL2
 have HQ : Hid (∀ y, y = W1.setRow g L2.toArray → y.ownsRow B 78 2 (.slice (some ⟨g, 0, none⟩) (n + 1) cap) (n + 1) (xs.take (i * 2) ++ news ++ xs.drop (i * 2)) ∧ w.grownBy y (some g)) := fun y hy => by
  have e0 : (xs.take (i * 2) ++ news ++ xs.drop (i * 2)).length = (n + 1) * 2 := by simp; omega
  refine ⟨⟨e0, .inr ⟨g, cap, L2.toArray, rfl, hBg, by rw [hy]; exact setRow_heap W1 g _ _ 78 _ hg1, hroom, hcap, ?_, ?_⟩⟩, ?_⟩
  ·rw [List.size_toArray, hfin]
   simp only [List.length_append, List.length_take, List.length_drop]
   omega
  ·show L2.take _ = _
   rw [hfin]
   exact List.take_left' e0
  ·rw [hy, hW1]
   exact ⟨rfl, rfl, rfl, by simp [World.setRow], fun k _ hk => (setRow_other _ g k _ (fun e => hk (by rw [e]))).trans (setRow_other w.drew g k _ (fun e => hk (by rw [e])))⟩
 have HW1 := hid hW1
 rw [← hW1] at hcp1
 clear hfin hL1 hL2 hg hh hg1 hh1 h1 h1x hl1 hsl hsl' hxl hnl hne hW1
 have hz2 : ¬ ((i : Int) = (n : Int)) := by omega
 have hr2 : ¬ ((cap : Int) < (n : Int) + 1) := by omega
 have hb4 : ¬ (cap = i) := by omega
 have hb2 : ¬ (cap = i + 1) := by omega
 have hb3 : (i : Int) ≤ (n : Int) + 1 := by omega
 have hb5 : (i : Int) + 1 ≤ (n : Int) + 1 := by omega
 have hb6 : (n : Int) + 1 ≤ (cap : Int) := by omega
 have hin : (i : Int) ≤ (n : Int) := by omega
 have mixed : Tryz.prog.follows Departure.mixedOrders = true := by kernel_rfl
 have hw1 : IntKind.i64.wrap ((i : Int) + 1) = (i : Int) + 1 := by rw [IntKind.wrap_i64]; omega
 have htn : ((i : Int) + 1).toNat = i + 1 := by omega
 have hb1 : (0 : Int) ≤ (i : Int) + 1 := by omega
 go_enter Tryz.func128, Tryz.ntmps128
 go_wp2_with (simp only [hov])
 go_region_law_o (refine step_copy_runI rfl _ _ 36 36 rfl _ _ (by simp [Act.eval, Act.put]) (by simp [Act.eval, Act.put]) (hcp1 _ _) ?_)
 go_wp2_with (at_builtin; refine wpList_copy_runI _ rfl _ _ 36 36 rfl _ _ rfl rfl (hcp2 _) ?_)
 go_ret
 exact ⟨_, rfl, (HQ.out _ rfl).1, (HQ.out _ rfl).2, fun _ hb => .inl hb⟩
set_option maxRecDepth 100000 in
set_option maxHeartbeats 4000000 in
theorem InsR_grow (B n cap g h i : Nat) (xs sp news : List Value) (w : World) (hi : i < n) (hnc : n ≤ cap) (hroom : cap < n + 1) (hg : w.heap[g]? = some (.cells (xs ++ sp).toArray 78 (0, 0))) (hxl : xs.length = n * 2) (hh : w.heap[h]? = some (.cells news.toArray 78 (0, 0))) (hnl : news.length = 2) (h1 : ∀ u ∈ news, u.oneCell' = true) (h1x : ∀ u ∈ xs, u.oneCell' = true) (hn : n ≤ 16777216) (hB : B ≤ w.heap.size) :
  Calls Tryz.prog 128 #[.slice (some ⟨g, 0, none⟩) n cap, .int .i64 (i : Int), .slice (some ⟨h, 0, none⟩) 1 1] w fun e w' => InsP B w (.slice (some ⟨g, 0, none⟩) n cap) (n + 1) (xs.take (i * 2) ++ news ++ xs.drop (i * 2)) e w' := by
 obtain ⟨i0, hi0, hz0, hz1, hz2⟩ := info_parts info32
 have hlg : g < w.heap.size := (Array.getElem?_eq_some_iff.1 hg).1
 have hlh : h < w.heap.size := (Array.getElem?_eq_some_iff.1 hh).1
 have hdl : (xs.drop (i * 2)).length = (n - i) * 2 := by rw [List.length_drop, hxl]; omega
 have htl : (xs.take (i * 2)).length = i * 2 := by rw [List.length_take, hxl]; omega
 have r1 := run_append_zeros_grow (P := Tryz.prog) w 36 3 36 78 i0 _ .i64 .i64 Tryz.underlying36 Tryz.underlying3 hi0 hz0 g i (n + 1 - i) cap (xs.take (i * 2)) (by rw [htl, hz1]) (fun j u hu => by
  rw [Addr.add_lit, Nat.zero_add]
  have hj := (List.getElem?_eq_some_iff.1 hu).1
  rw [List.getElem?_take_of_lt (by rw [htl] at hj; exact hj)] at hu
  simp only [World.cell?, hg]
  rw [List.getElem?_toArray, List.getElem?_append_left (List.getElem?_eq_some_iff.1 hu).1]
  simpa using hu) (by omega) (by omega) (by omega) (by omega) (by rw [hz2]; omega)
 rw [show i + (n + 1 - i) = n + 1 by omega, show (((n + 1 - i : Nat)) : Int) = (n : Int) + 1 - (i : Int) by omega] at r1
 have hCge := grownCap_ge w (n + 1) cap 78
 have hCle := grownCap_le_maxLen w (n + 1) cap 78 (by unfold maxLen; omega)
 generalize hC : grownCap w (n + 1) cap 78 = C at *
 obtain ⟨L0, hL0⟩ : ∃ L0, L0 = xs.take (i * 2) ++ (Builtin.zeroCells (Value.agg #[.int .i64 0, .int .i64 0]).cells (n + 1 - i)).toList ++ (Builtin.zeroCells (Value.agg #[.int .i64 0, .int .i64 0]).cells (C - (n + 1))).toList := ⟨_, rfl⟩
 obtain ⟨W1, hW1⟩ : ∃ W1, W1 = w.drew.alloc (.cells L0.toArray 78) := ⟨_, rfl⟩
 have r1' : (Builtin.append_ #[36, 3] 36 #[.slice (some ⟨g, 0, none⟩) i cap, .int .i64 ((n : Int) + 1 - (i : Int))]).run Tryz.prog w = .ok (.slice (some ⟨w.heap.size, 0, none⟩) (n + 1) C) W1 := by
  rw [r1, hW1, hL0]
  congr 3
  apply Array.ext'
  simp
 clear r1
 obtain ⟨G, hG⟩ : ∃ G, G = w.heap.size := ⟨_, rfl⟩
 have hzl : (Builtin.zeroCells (Value.agg #[.int .i64 0, .int .i64 0]).cells (n + 1 - i)).toList.length = (n + 1 - i) * 2 := by
  rw [Array.length_toList, size_zeroCells]; rfl
 have hzr : (Builtin.zeroCells (Value.agg #[.int .i64 0, .int .i64 0]).cells (C - (n + 1))).toList.length = (C - (n + 1)) * 2 := by
  rw [Array.length_toList, size_zeroCells]; rfl
 have hl0 : L0.length = C * 2 := by
  rw [hL0]
  simp only [List.length_append, htl, hzl, hzr]
  omega
 have hg1 : W1.heap[G]? = some (.cells L0.toArray 78 (0, 0)) := by rw [hW1, hG]; exact heap_new _ _
 have hb1 : ∀ k, k < w.heap.size → W1.heap[k]? = w.heap[k]? := fun k hk => by rw [hW1]; exact Below.heap_alloc w.drew _ _ hk
 obtain ⟨L1, hL1⟩ : ∃ L1, L1 = L0.take (i * 2) ++ news ++ L0.drop (i * 2 + news.length) := ⟨_, rfl⟩
 have hl1 : L1.length = C * 2 := by
  rw [hL1]
  simp only [List.length_append, List.length_take, List.length_drop]
  omega
 have hcp1 : ∀ dc, (Builtin.copy_ #[36, 36] 3 #[.slice (some ⟨G, i * 2, none⟩) (n + 1 - i) dc, .slice (some ⟨h, 0, none⟩) 1 1]).run Tryz.prog W1 = .ok (goInt 1) (W1.setRow G L1.toArray) := fun dc => by
  have hm : Nat.min 1 (n + 1 - i) = 1 := Nat.min_eq_left (by omega)
  have := run_copy_wide (P := Tryz.prog) W1 36 36 3 78 G (i * 2) (n + 1 - i) dc ⟨h, 0, none⟩ 1 1 2 L0.toArray 78 news Tryz.underlying36 info78zz hg1 (by rw [hnl, hm]) (fun j u hu => by
   rw [Addr.add_lit, Nat.zero_add]
   simp only [World.cell?, hb1 h hlh, hh]
   simpa using hu) (by simp only [List.size_toArray, hl0, hnl]; omega) h1
  rw [hm] at this
  rw [hL1]
  exact this
 obtain ⟨W2, hW2⟩ : ∃ W2, W2 = W1.setRow G L1.toArray := ⟨_, rfl⟩
 have hg2 : W2.heap[G]? = some (.cells L1.toArray 78 (0, 0)) := by rw [hW2]; exact setRow_heap W1 G _ _ 78 _ hg1
 have hb2 : ∀ k, k < w.heap.size → W2.heap[k]? = w.heap[k]? := fun k hk => by rw [hW2, setRow_other W1 G k _ (by omega)]; exact hb1 k hk
 obtain ⟨L2, hL2⟩ : ∃ L2, L2 = L1.take (i * 2 + 2) ++ xs.drop (i * 2) ++ L1.drop (i * 2 + 2 + (xs.drop (i * 2)).length) := ⟨_, rfl⟩
 have hcp2 : ∀ dc sc, (Builtin.copy_ #[36, 36] 3 #[.slice (some ⟨G, (i + 1) * 2, none⟩) (n - i) dc, .slice (some ⟨g, i * 2, none⟩) (n - i) sc]).run Tryz.prog W2.drew = .ok (goInt ((n - i : Nat) : Int)) (W2.drew.setRow G L2.toArray) := fun dc sc => by
  have hm : Nat.min (n - i) (n - i) = n - i := Nat.min_self _
  have := run_copy_wide (P := Tryz.prog) W2.drew 36 36 3 78 G ((i + 1) * 2) (n - i) dc ⟨g, i * 2, none⟩ (n - i) sc 2 L1.toArray 78 (xs.drop (i * 2)) Tryz.underlying36 info78zz hg2 (by rw [hdl, hm]) (fun j u hu => by
   rw [Addr.add_lit]
   rw [List.getElem?_drop] at hu
   show W2.cell? _ = _
   simp only [World.cell?, hb2 g hlg, hg]
   rw [List.getElem?_toArray, List.getElem?_append_left (List.getElem?_eq_some_iff.1 hu).1]
   simpa using hu) (by simp only [List.size_toArray, hl1, hdl]; omega) (fun u hu => h1x u (List.mem_of_mem_drop hu))
  rw [hm, show (i + 1) * 2 = i * 2 + 2 by omega] at this
  rw [show (i + 1) * 2 = i * 2 + 2 by omega, hL2]
  simpa only [List.toList_toArray] using this
 have hfin := grow_list xs _ _ news (i * 2) 2 (by omega) hnl (by rw [hzl, hxl]; omega) L0 L1 L2 hL0 hL1 hL2
 have HQ : Hid (∀ y, y = W2.drew.setRow G L2.toArray → y.ownsRow B 78 2 (.slice (some ⟨G, 0, none⟩) (n + 1) C) (n + 1) (xs.take (i * 2) ++ news ++ xs.drop (i * 2)) ∧ w.grownBy y (some g)) := fun y hy => by
  have e0 : (xs.take (i * 2) ++ news ++ xs.drop (i * 2)).length = (n + 1) * 2 := by simp only [List.length_append, htl, hdl, hnl]; omega
  have hs2 : W2.heap.size = w.heap.size + 1 := by rw [hW2, hW1]; simp [World.setRow]
  refine ⟨⟨e0, .inr ⟨G, C, L2.toArray, rfl, by omega, by rw [hy]; exact setRow_heap W2.drew G _ _ 78 _ hg2, hCge, hCle, ?_, ?_⟩⟩, ?_⟩
  ·rw [List.size_toArray, hfin, List.length_append, e0, hzr]
   omega
  ·show L2.take _ = _
   rw [hfin]
   exact List.take_left' e0
  ·rw [hy]
   refine ⟨by rw [hW2, hW1]; rfl, by rw [hW2, hW1]; rfl, by rw [hW2, hW1]; rfl, by show w.heap.size ≤ (W2.drew.setRow G L2.toArray).heap.size; simp [World.setRow]; show w.heap.size ≤ W2.heap.size; omega, fun k hk _ => ?_⟩
   rw [setRow_other W2.drew G k _ (by omega)]
   exact hb2 k hk
 have HG := hid hG
 rw [← hG] at r1'
 rw [← hW2] at hcp1
 clear hfin hL0 hL1 hL2 hg hh hg1 hg2 hb1 hb2 h1 h1x hl0 hl1 hxl hnl hzl hzr hW1 hW2 hC hi0 hz0 hz1 hz2 hdl htl hG hlg hlh
 have hz2 : ¬ ((i : Int) = (n : Int)) := by omega
 have hr2 : (cap : Int) < (n : Int) + 1 := by omega
 have hb4 : ¬ (cap = i) := by omega
 have hc4 : ¬ (C = i) := by omega
 have hb2 : ¬ (C = i + 1) := by omega
 have hb3 : (i : Int) ≤ (n : Int) + 1 := by omega
 have hb5 : (i : Int) + 1 ≤ (n : Int) + 1 := by omega
 have hin : (i : Int) ≤ (n : Int) := by omega
 have hic : (i : Int) ≤ (cap : Int) := by omega
 have mixed : Tryz.prog.follows Departure.mixedOrders = true := by kernel_rfl
 have hw1 : IntKind.i64.wrap ((i : Int) + 1) = (i : Int) + 1 := by rw [IntKind.wrap_i64]; omega
 have hw2 : IntKind.i64.wrap ((n : Int) + 1 - (i : Int)) = (n : Int) + 1 - (i : Int) := by rw [IntKind.wrap_i64]; omega
 have htn : ((i : Int) + 1).toNat = i + 1 := by omega
 have hb1 : (0 : Int) ≤ (i : Int) + 1 := by omega
 go_enter Tryz.func128, Tryz.ntmps128
 go_wp2_with (first | (at_builtin; refine Lib.wpList_append_run _ rfl _ _ _ _ rfl _ _ rfl rfl _ _ r1' ?_) | (at_builtin; refine wpList_copy_runI _ rfl _ _ 36 36 rfl _ _ rfl rfl (hcp1 _) ?_))
 go_region_law_o (refine step_copy_runI rfl _ _ 36 36 rfl _ _ (by simp [Act.eval, Act.put]) (by simp [Act.eval, Act.put]) (hcp2 _ _) ?_)
 go_wp2
 go_ret
 exact ⟨_, rfl, (HQ.out _ rfl).1, (HQ.out _ rfl).2, fun b hb => .inr (by have q : some G = some b := hb; have e := HG.out; simp only [Option.some.injEq] at q; omega)⟩
theorem InsR_any (B n h i : Nat) (v : Value) (xs news : List Value) (w : World) (hown : w.ownsRow B 78 2 v n xs) (hh : w.heap[h]? = some (.cells news.toArray 78 (0, 0))) (hne : v.ownBlock ≠ some h) (hnl : news.length = 2) (h1 : ∀ u ∈ news, u.oneCell' = true) (h1x : ∀ u ∈ xs, u.oneCell' = true) (hi : i ≤ n) (hn : n ≤ 16777216) (hB : B ≤ w.heap.size) :
  Calls Tryz.prog 128 #[v, .int .i64 (i : Int), .slice (some ⟨h, 0, none⟩) 1 1] w fun e w' => InsP B w v (n + 1) (xs.take (i * 2) ++ news ++ xs.drop (i * 2)) e w' := by
 by_cases e : i = n
 ·subst e
  have := InsR_end B i h v xs news w hown hh hnl h1 hn hB
  rw [List.take_of_length_le (by rw [hown.1]; exact Nat.le_refl _), List.drop_of_length_le (by rw [hown.1]; exact Nat.le_refl _), List.append_nil]
  exact this
 ·rcases hown.2 with ⟨_, q⟩ | ⟨g, cap, cur, rfl, hBg, hg, hnc, hcm, hcs, htk⟩
  ·omega
  ·have hne' : h ≠ g := fun e => hne (by rw [e]; rfl)
   have hcur : cur = (xs ++ cur.toList.drop (n * 2)).toArray := by
    apply Array.ext'
    rw [← htk]
    simp
   have hlen : (xs ++ cur.toList.drop (n * 2)).length = cap * 2 := by
    rw [← htk, List.take_append_drop, Array.length_toList, hcs]
   rw [hcur] at hg
   by_cases hr : n + 1 ≤ cap
   ·exact InsR_shift B n cap g h i xs _ news w (by omega) hr hcm hg hBg hown.1 hlen hh hne' hnl h1 h1x hn
   ·exact InsR_grow B n cap g h i xs _ news w (by omega) hnc (by omega) hg hown.1 hh hnl h1 h1x hn hB
end Go.Proofs.YtddddfankeepkaaGreatDoor
namespace Go.Proofs.YtddddfankeepkaaGreatDoor
open Go.RowKit
theorem zeros_one {cs : Array Value} (h : ∀ u ∈ cs.toList, u.oneCell' = true) (hs : 0 < cs.size) (n : Nat) : ∀ u ∈ (Builtin.zeroCells cs n).toList, u.oneCell' = true := by
 intro u hu
 simp only [Builtin.zeroCells] at hu
 simp at hu
 obtain ⟨j, hj, rfl⟩ := hu
 have hm : j % cs.size < cs.size := Nat.mod_lt _ hs
 apply h
 rw [getElem!_pos cs _ hm]
 simp
theorem clear_row {tS e ty : TypeId} {i0 : TypeInfo} {z : Value} {sz : Nat} (w : World) (ht : Tryz.prog.underlying tS = some (.slice e)) (hi : Tryz.prog.info? e = some i0) (hz : i0.zero = some z) (hzs : z.cells.size = sz) (hz1 : ∀ u ∈ z.cells.toList, u.oneCell' = true) (hsz : 0 < sz) (g o k c : Nat) (cs : List Value) (hg : w.heap[g]? = some (.cells cs.toArray e (0, 0))) (hfit : o + k * sz ≤ cs.length) (hk : 0 < k) :
  ∃ zs, zs.length = k * sz ∧ (Builtin.clear_ #[tS] ty #[.slice (some ⟨g, o, none⟩) k c]).run Tryz.prog w = .ok (.tuple #[]) (w.setRow g (cs.take o ++ zs ++ cs.drop (o + zs.length)).toArray) := by
 have hl : (Builtin.zeroCells z.cells k).toList.length = k * sz := by rw [Array.length_toList, size_zeroCells, hzs]
 refine ⟨(Builtin.zeroCells z.cells k).toList, hl, ?_⟩
 have hst := run_storeCells_at Tryz.prog g o e (Builtin.zeroCells z.cells k).toList 0 cs.toArray w hg (by simp only [List.size_toArray]; omega) (zeros_one hz1 (by omega) k)
 obtain ⟨m, rfl⟩ : ∃ m, k = m + 1 := ⟨k - 1, by omega⟩
 simp only [Nat.add_zero] at hst
 simp [Builtin.clear_, run_underlying ht, zeroValue, typeInfo, hi, hz]
 rw [hst]
 simp
theorem zer38 : ∀ u ∈ (Value.agg #[.string ByteArray.empty, .int .i64 0, .int .i64 0, .int .i64 0, .int .i64 0, .bool false, .slice none 0 0]).cells.toList, u.oneCell' = true := by
 intro u hu
 simp only [Value.cells, List.mem_cons, List.not_mem_nil, or_false] at hu
 rcases hu with rfl | rfl | rfl | rfl | rfl | rfl | rfl <;> rfl
def DelQ (B : Nat) (w : World) (v : Value) (n : Nat) (ys : List Value) (e : Ending) (w' : World) : Prop := ∃ v', e = .returned v' ∧ w'.ownsRow B 38 7 v' n ys ∧ w.grownBy w' v.ownBlock ∧ OwnB w v v'
set_option maxRecDepth 100000 in
set_option maxHeartbeats 4000000 in
theorem DelV_any (B n i : Nat) (v : Value) (xs : List Value) (w : World) (hown : w.ownsRow B 38 7 v n xs) (h1x : ∀ u ∈ xs, u.oneCell' = true) (hi : i < n) (hn : n ≤ 16777216) :
  Calls Tryz.prog 100 #[v, .int .i64 (i : Int), .int .i64 ((i : Int) + 1)] w fun e w' => DelQ B w v (n - 1) (xs.take (i * 7) ++ xs.drop (i * 7 + 7)) e w' := by
 obtain ⟨i0, hi0, hz0, hz1, hz2⟩ := info_parts info30
 rcases hown.2 with ⟨_, q⟩ | ⟨g, cap, cur, rfl, hBg, hg, hnc, hcm, hcs, htk⟩
 ·omega
 have hxl := hown.1
 have hcur : cur = (xs ++ cur.toList.drop (n * 7)).toArray := by
  apply Array.ext'
  rw [← htk]
  simp
 generalize hsp : cur.toList.drop (n * 7) = sp at *
 subst hcur
 have hlen : (xs ++ sp).length = cap * 7 := by simpa using hcs
 have hlen' : xs.length + sp.length = cap * 7 := by simpa using hlen
 clear hsp htk hcs
 have hdl : (xs.drop (i * 7 + 7)).length = (n - (i + 1)) * 7 := by rw [List.length_drop, hxl]; omega
 obtain ⟨L1, hL1⟩ : ∃ L1, L1 = (xs ++ sp).take (i * 7) ++ xs.drop (i * 7 + 7) ++ (xs ++ sp).drop (i * 7 + (xs.drop (i * 7 + 7)).length) := ⟨_, rfl⟩
 have hl1 : L1.length = cap * 7 := by
  rw [hL1]
  simp only [List.length_append, List.length_take, List.length_drop]
  omega
 obtain ⟨W1, hW1⟩ : ∃ W1, W1 = w.drew.setRow g L1.toArray := ⟨_, rfl⟩
 have happ : ∀ a c, (n - (i + 1) = 0 ∨ a = ⟨g, (i + 1) * 7, none⟩) → (Builtin.append_ #[22, 22] 22 #[.slice (some ⟨g, 0, none⟩) i cap, .slice (some a) (n - (i + 1)) c]).run Tryz.prog w.drew = .ok (.slice (some ⟨g, 0, none⟩) (i + (n - (i + 1))) cap) W1 := fun a c ha => by
  have := run_append_room (P := Tryz.prog) w.drew 22 22 38 i0 Tryz.underlying22 hi0 g i cap (xs ++ sp).toArray hg a (n - (i + 1)) c (xs.drop (i * 7 + 7)) (by rw [hdl, hz1]) (fun j u hu => by
   rcases ha with ha | ha
   ·have := (List.getElem?_eq_some_iff.1 hu).1
    rw [hdl, ha] at this
    omega
   ·rw [ha, Addr.add_lit]
    rw [List.getElem?_drop] at hu
    show w.cell? _ = _
    simp only [World.cell?, hg]
    rw [List.getElem?_toArray, show (i + 1) * 7 + j = i * 7 + 7 + j by omega, List.getElem?_append_left (List.getElem?_eq_some_iff.1 hu).1]
    simpa using hu) (fun u hu => h1x u (List.mem_of_mem_drop hu)) (by omega) (by rw [hz1, hdl, List.size_toArray, hlen]; omega)
  rw [hz1] at this
  rw [hW1, hL1]
  simpa only [List.toList_toArray] using this
 have hg1 : W1.heap[g]? = some (.cells L1.toArray 38 (0, 0)) := by rw [hW1]; exact setRow_heap w.drew g _ _ 38 _ hg
 obtain ⟨zs, hzl, hclr⟩ := clear_row (ty := 0) (sz := 7) W1 Tryz.underlying22 hi0 hz0 rfl zer38 (by decide) g ((n - 1) * 7) 1 (cap - (n - 1)) L1 hg1 (by rw [hl1]; omega) (by decide)
 obtain ⟨W2, hW2⟩ : ∃ W2, W2 = W1.setRow g (L1.take ((n - 1) * 7) ++ zs ++ L1.drop ((n - 1) * 7 + zs.length)).toArray := ⟨_, rfl⟩
 rw [← hW2] at hclr
 have HQ : Hid (W2.ownsRow B 38 7 (.slice (some ⟨g, 0, none⟩) (n - 1) cap) (n - 1) (xs.take (i * 7) ++ xs.drop (i * 7 + 7)) ∧ w.grownBy W2 (some g)) := by
  have et : (xs ++ sp).take (i * 7) = xs.take (i * 7) := List.take_append_of_le_length (by omega)
  have e0 : (xs.take (i * 7) ++ xs.drop (i * 7 + 7)).length = (n - 1) * 7 := by simp only [List.length_append, List.length_take, List.length_drop]; omega
  have e1 : L1.take ((n - 1) * 7) = xs.take (i * 7) ++ xs.drop (i * 7 + 7) := by
   rw [hL1, et]
   exact List.take_left' e0
  refine ⟨⟨e0, .inr ⟨g, cap, (L1.take ((n - 1) * 7) ++ zs ++ L1.drop ((n - 1) * 7 + zs.length)).toArray, rfl, hBg, by rw [hW2]; exact setRow_heap W1 g _ _ 38 _ hg1, by omega, hcm, ?_, ?_⟩⟩, ?_⟩
  ·rw [List.size_toArray]
   simp only [List.length_append, List.length_take, List.length_drop, hl1, hzl]
   omega
  ·show (L1.take ((n - 1) * 7) ++ zs ++ L1.drop ((n - 1) * 7 + zs.length)).take _ = _
   rw [e1, List.append_assoc]
   exact List.take_left' e0
  ·rw [hW2, hW1]
   exact ⟨rfl, rfl, rfl, by simp [World.setRow], fun k _ hk => (setRow_other _ g k _ (fun e => hk (by rw [e]))).trans (setRow_other w.drew g k _ (fun e => hk (by rw [e])))⟩
 have HX : Hid (n = i + 1 → ∃ W3, (Builtin.clear_ #[22] 0 #[.slice (some ⟨g, i * 7, none⟩) 1 (cap - i)]).run Tryz.prog w.drew = .ok (.tuple #[]) W3 ∧ W3.ownsRow B 38 7 (.slice (some ⟨g, 0, none⟩) i cap) (n - 1) (xs.take (i * 7) ++ xs.drop (i * 7 + 7)) ∧ w.grownBy W3 (some g)) := fun hni => by
  obtain ⟨zs', hzl', hclr'⟩ := clear_row (ty := 0) (sz := 7) w.drew Tryz.underlying22 hi0 hz0 rfl zer38 (by decide) g (i * 7) 1 (cap - i) (xs ++ sp) hg (by rw [hlen]; omega) (by decide)
  refine ⟨_, hclr', ?_, ⟨rfl, rfl, rfl, by simp [World.setRow], fun k _ hk => setRow_other w.drew g k _ (fun e => hk (by rw [e]))⟩⟩
  have et : (xs ++ sp).take (i * 7) = xs.take (i * 7) := List.take_append_of_le_length (by omega)
  have ed : xs.drop (i * 7 + 7) = [] := List.drop_of_length_le (by omega)
  rw [ed, List.append_nil, show n - 1 = i by omega]
  have e0 : (xs.take (i * 7)).length = i * 7 := by rw [List.length_take]; omega
  refine ⟨e0, .inr ⟨g, cap, _, rfl, hBg, setRow_heap w.drew g _ _ 38 _ hg, by omega, hcm, ?_, ?_⟩⟩
  ·rw [List.size_toArray]
   simp only [List.length_append, List.length_take, List.length_drop, hzl']
   omega
  ·show ((xs ++ sp).take (i * 7) ++ zs' ++ (xs ++ sp).drop (i * 7 + zs'.length)).take _ = _
   rw [et, List.append_assoc]
   exact List.take_left' e0
 clear hL1 hl1 hg1 hW1 hW2 hg hlen hlen' hxl hdl h1x hzl hown hi0 hz0 hz1 hz2
 have hn1 : i + (n - (i + 1)) = n - 1 := by omega
 rw [hn1] at happ
 have hz2 : ¬ ((i : Int) = (i : Int) + 1) := by omega
 have hin : (i : Int) ≤ (n : Int) := by omega
 have hic : (i : Int) ≤ (cap : Int) := by omega
 have hb5 : (i : Int) + 1 ≤ (n : Int) := by omega
 have hnc' : (n : Int) ≤ (cap : Int) := by omega
 have mixed : Tryz.prog.follows Departure.mixedOrders = true := by kernel_rfl
 have htn : ((i : Int) + 1).toNat = i + 1 := by omega
 have hb1 : (0 : Int) ≤ (i : Int) + 1 := by omega
 have hb6 : (i : Int) ≤ (i : Int) + 1 := by omega
 have hcn : ¬ (cap = n - 1) := by omega
 have hsub : n - (n - 1) = 1 := by omega
 have hnn : (((n - 1 : Nat)) : Int) ≤ (n : Int) := by omega
 by_cases hci : cap = i + 1
 ·have hni : n = i + 1 := by omega
  subst hci
  subst hni
  have hclr := HX.out rfl
  obtain ⟨W3, hclr3, hq1, hq2⟩ := hclr
  rw [show i + 1 - i = 1 by omega] at hclr3
  have HQ1 := hid hq1
  have HQ2 := hid hq2
  clear happ hn1 hcn hsub hnn htn HQ HX hq1 hq2 hclr
  have htn : ((i : Int) + 1).toNat = i + 1 := by omega
  have hb7 : (i : Int) ≤ (i : Int) + 1 := by omega
  have hsub : i + 1 - i = 1 := by omega
  have hii : ¬ (i + 1 = i) := by omega
  go_enter Tryz.func100, Tryz.ntmps100
  go_wp2_with fail
  go_region_law_o (fail)
  all_goals
   go_wp2
   go_ret
   exact ⟨_, rfl, HQ1.out, HQ2.out, fun _ h => .inl h⟩
 ·have happ' := happ ⟨g, (i + 1) * 7, none⟩ (cap - (i + 1)) (.inr rfl)
  clear happ
  go_enter Tryz.func100, Tryz.ntmps100
  go_wp2_with fail
  go_region_law_o (refine step_append_run rfl _ _ _ _ (by rfl) _ _ (by rfl) (by rfl) _ _ (by exact happ') ?_)
  all_goals
   go_wp2
   go_ret
   exact ⟨_, rfl, HQ.out.1, HQ.out.2, fun _ h => .inl h⟩
end Go.Proofs.YtddddfankeepkaaGreatDoor
