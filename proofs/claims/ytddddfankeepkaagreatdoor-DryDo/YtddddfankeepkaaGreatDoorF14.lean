import Derived.Test.YtddddfankeepkaaGreatDoorF13
import Derived.Test.YtddddfankeepkaaGreatDoorF10
namespace Go.Proofs.YtddddfankeepkaaGreatDoor
open Go.RowKit
set_option maxRecDepth 100000 in
set_option maxHeartbeats 8000000 in
theorem rename_any (B D : Nat) (x : VW) (u : Value) (us : List Value) (o : OW) (dv : Value) (k : Nat) (po : Int) (w : World) (H : DrV B w D x u us o dv (k : Int) po) (hk : k < x.vs.length) (hl : x.vs.length ≤ 16777216) (hB : B ≤ w.heap.size) :
  Calls Tryz.prog 65 #[.pointer (some ⟨D, 0, none⟩)] w fun e w' => DoQ B w D ⟨x.cp, x.fr, x.nx, layP (x.vs.eraseIdx k) (setNm x.vs[k] o.ot)⟩ o dv (k : Int) po e w' := by
 obtain ⟨g, c, sa, sc, rfl, hg, hus, hV, hn, _⟩ := H.ow.volc hk
 have hu : k < us.length := by rw [H.ow.len]; exact hk
 have HS2 := hid (volume_any D x g 0 x.vs.length c k o dv po w H.dr hk)
 have hgl := (H.ow.blk hg).2.1
 have hdk := H.ow.dat k hk
 rw [hus] at hdk
 generalize hs : x.vs[k] = s at *
 have HU : Hid (∀ W1, W1.heap = w.heap → Below w.heap.size w W1 → ∃ W2 P, P = W1.heap.size ∧ W2 = W1.alloc (.cells #[.string s.nm, .int .i64 s.id, .int .i64 s.sz, .int .i64 s.og, .int .i64 s.kd, .bool s.pt, .slice sa s.mp.length sc] 38) ∧ Calls Tryz.prog 67 #[.pointer (some ⟨D, 0, none⟩)] W2 fun e w3 => e = .returned (.tuple #[]) ∧ (w3.cell? ⟨D, 6, none⟩ = some (.string o.ot) ∧ D ≠ P) ∧ (w3.cell? ⟨P, 0, none⟩ = some (.string s.nm) ∧ w3.cell? ⟨P, 1, none⟩ = some (.int .i64 s.id) ∧ w3.cell? ⟨P, 2, none⟩ = some (.int .i64 s.sz) ∧ w3.cell? ⟨P, 3, none⟩ = some (.int .i64 s.og) ∧ w3.cell? ⟨P, 4, none⟩ = some (.int .i64 s.kd) ∧ w3.cell? ⟨P, 5, none⟩ = some (.bool s.pt) ∧ w3.cell? ⟨P, 6, none⟩ = some (.slice sa s.mp.length sc) ∧ w3.frozen? ⟨P, 0, none⟩ = false) ∧ Hid (∀ w4, w4 = w3.setCell ⟨P, 0, none⟩ (.string o.ot) → Calls Tryz.prog 97 #[.pointer (some ⟨D, 0, none⟩), .agg #[.string o.ot, .int .i64 s.id, .int .i64 s.sz, .int .i64 s.og, .int .i64 s.kd, .bool s.pt, .slice sa s.mp.length sc]] w4 fun e w' => DoQ B w D ⟨x.cp, x.fr, x.nx, layP (x.vs.eraseIdx k) (setNm s o.ot)⟩ o dv (k : Int) po e w')) := fun W1 hH1 hb1 => by
  have hz1 : W1.heap.size = w.heap.size := by rw [hH1]
  have hV1 : VoB (W1.alloc (.cells #[.string s.nm, .int .i64 s.id, .int .i64 s.sz, .int .i64 s.og, .int .i64 s.kd, .bool s.pt, .slice sa s.mp.length sc] 38)) W1.heap.size s (.slice sa s.mp.length sc) := heap_new _ _
  refine ⟨_, _, rfl, rfl, ?_⟩
  generalize hW2 : W1.alloc (.cells #[.string s.nm, .int .i64 s.id, .int .i64 s.sz, .int .i64 s.og, .int .i64 s.kd, .bool s.pt, .slice sa s.mp.length sc] 38) = W2 at *
  have b2 : Below w.heap.size w W2 := by rw [← hW2]; exact hb1.alloc hb1.size _
  have H2 := H.next b2
  refine (remove_any B D x _ us o dv k po W2 H2 hk hl).mono fun e w3 hq => ?_
  obtain ⟨rfl, ⟨u', H3, hob⟩, hbut⟩ := hq
  have hDP : D ≠ W1.heap.size := by have := H.dr.lt; omega
  have hPg : ¬ ((Value.slice (some ⟨g, 0, none⟩) x.vs.length c).ownBlock = some W1.heap.size) := fun e => by
   have : some g = some W1.heap.size := e
   simp only [Option.some.injEq] at this
   omega
  have hPk : w3.heap[W1.heap.size]? = W2.heap[W1.heap.size]? := hbut.block _ hV1.lt (fun h => h.elim (fun e => hDP e.symm) hPg)
  have hV3 := hV1.keep hPk
  obtain ⟨⟨m0, m1, m2, m3, m4, m5, m6⟩, mf⟩ := hV3.cs
  obtain ⟨_, _, _, _, _, _, k6, _⟩ := H3.dr.cs
  refine ⟨rfl, ⟨k6, hDP⟩, ⟨m0, m1, m2, m3, m4, m5, m6, mf 0⟩, hid (fun w4 hw4 => ?_)⟩
  have hd3 : OwR B w3 (.slice sa s.mp.length sc) s.mp := by
   refine own_keep (own_next hdk b2) fun b hb => hbut.block b (own_blk (own_next hdk b2) hb).2.1 (fun h => ?_)
   rcases h with h | h
   ·rw [h] at hb
    exact H.ne.2 k hu (by rw [hus]; exact hb)
   ·exact H.ow.ne h hu (by rw [hus]; exact hb)
  have hPl : ∀ {z : Value} {n : Nat} {t : TypeId} {m : Nat} {xs : List Value}, w3.ownsRow B t n z m xs → t ≠ 38 → z.ownBlock ≠ some W1.heap.size := fun hz ht e => by
   obtain ⟨_, _, cur, hc⟩ := own_blk hz e
   exact absurd (row_kind hc hV3) ht
  have hun : u'.ownBlock ≠ some W1.heap.size := fun e => by
   have hP2 := hV1.lt
   rcases hob _ e with h | h
   ·exact hPg h
   ·omega
  have H4 : DrV B w4 D ⟨x.cp, x.fr, x.nx, x.vs.eraseIdx k⟩ u' (us.eraseIdx k) o dv (k : Int) po := by
   rw [hw4]
   exact ⟨H3.dr.keep (Below.heap_setCell _ _ _ _ hDP), H3.ow.set (p := ⟨W1.heap.size, 0, none⟩) hun (fun i hi => hPl (H3.ow.dat i (by rw [← H3.ow.len]; exact hi)) (by decide)) _, H3.ap, H3.hD⟩
  have hb4 : BelK B w w4 := by
   have q : BelK B W2 w3 := BelK.but hbut (by have := b2.size; omega) (fun y h => by
    rcases h with h | h
    ·rw [h]
     exact ⟨H2.hD, H2.kd⟩
    ·exact KdOk.own H2.ow.row h (by decide) (by decide))
   rw [hw4]
   exact ((BelK.low b2 rfl hB).trans q).set (p := ⟨W1.heap.size, 0, none⟩) (by show B ≤ W1.heap.size; omega) ⟨_, _, _, hV3, by decide, by decide⟩ _
  refine (lay_any B D ⟨x.cp, x.fr, x.nx, x.vs.eraseIdx k⟩ u' (us.eraseIdx k) o dv (k : Int) po (setNm s o.ot) sa sc w4 H4 ?_ ?_ ?_ (by have := hb4.size; omega)).mono fun e w' hq => ⟨hq.1, hq.2.1, hb4.trans hq.2.2⟩
  ·rw [hw4]
   exact own_set hd3 (p := ⟨W1.heap.size, 0, none⟩) (hPl hd3 (by decide)) _
  ·intro i hi b hb e
   rw [List.getElem_eraseIdx] at hb
   have hl2 := List.length_eraseIdx_of_lt hu
   split at hb
   ·have := H.ap i k (by omega) hu b hb (by rw [hus]; exact e)
    omega
   ·have := H.ap (i + 1) k (by omega) hu b hb (by rw [hus]; exact e)
    omega
  ·show (x.vs.eraseIdx k).length ≤ _
   rw [List.length_eraseIdx_of_lt hk]
   omega
 have HV : Hid (w.cell? ⟨g, k * 7, none⟩ = some (.string s.nm) ∧ w.cell? ⟨g, k * 7 + 1, none⟩ = some (.int .i64 s.id) ∧ w.cell? ⟨g, k * 7 + 2, none⟩ = some (.int .i64 s.sz) ∧ w.cell? ⟨g, k * 7 + 3, none⟩ = some (.int .i64 s.og) ∧ w.cell? ⟨g, k * 7 + 4, none⟩ = some (.int .i64 s.kd) ∧ w.cell? ⟨g, k * 7 + 5, none⟩ = some (.bool s.pt) ∧ w.cell? ⟨g, k * 7 + 6, none⟩ = some (.slice sa s.mp.length sc)) := hV
 clear hV hus hn hs hgl hdk hl hk hB hg hu H
 go_enter Tryz.func65, Tryz.ntmps65
 go_wp2_with fail
 refine HS2.out.mono ?_
 rintro e w1 ⟨rfl, q, rfl⟩
 obtain ⟨W1, hW1⟩ : ∃ W1, W1 = w.drewN q := ⟨_, rfl⟩
 have hH1 : W1.heap = w.heap := by rw [hW1]; rfl
 have hb1 : Below w.heap.size w W1 := by rw [hW1]; exact below_drewN' _ _ _
 obtain ⟨W2, P, hP, hW2, hR⟩ := HU.out W1 hH1 hb1
 have hcl : ∀ i, W1.cell? ⟨g, i, none⟩ = w.cell? ⟨g, i, none⟩ := fun i => by simp only [World.cell?, hH1]
 obtain ⟨v0, v1, v2, v3, v4, v5, v6⟩ := HV.out
 rw [← hcl] at v0 v1 v2 v3 v4 v5 v6
 rw [← hW1]
 simp only [Nat.zero_add]
 have HR := hid hR
 have HP := hid hP
 have HW2 := hid hW2
 clear hW1 hH1 hb1 hP hW2 hR hcl HU HS2
 go_wp2_with fail
 rw [← HW2.out, ← HP.out]
 refine HR.out.mono ?_
 rintro e w3 ⟨rfl, ⟨k6, hDP⟩, ⟨m0, m1, m2, m3, m4, m5, m6, mf⟩, HL⟩
 have hDP2 : ¬ (P = D) := fun e => hDP e.symm
 obtain ⟨W4, hW4⟩ : ∃ W4, W4 = w3.setCell ⟨P, 0, none⟩ (.string o.ot) := ⟨_, rfl⟩
 have HL4 := hid (HL.out W4 hW4)
 have HW4 := hid hW4
 clear hW4 HL HR HW2 HP v0 v1 v2 v3 v4 v5 v6
 go_wp2_with fail
 rw [← HW4.out]
 refine HL4.out.mono ?_
 rintro e w5 ⟨rfl, h1, h2⟩
 have HQ : Hid (DoQ B w D ⟨x.cp, x.fr, x.nx, layP (x.vs.eraseIdx k) (setNm s o.ot)⟩ o dv (k : Int) po (.returned (.tuple #[])) w5) := ⟨rfl, h1, h2⟩
 clear h1 h2 HL4
 go_wp2
 go_end0
 exact HQ.out
theorem set_below {w w3 : World} {p : Addr} {z : Value} (h : Below w.heap.size w w3) : ∀ y, y < w.heap.size → (w3.setCell p z).heap[y]? = (w.setCell p z).heap[y]? := fun y hy => by
 have := h.block y hy
 by_cases e : p.block = y
 ·subst e
  simp [World.setCell, Array.getElem?_modify, this]
 ·rw [Below.heap_setCell _ _ _ _ (by exact fun q => e q.symm), Below.heap_setCell _ _ _ _ (by exact fun q => e q.symm), this]
set_option maxRecDepth 100000 in
set_option maxHeartbeats 8000000 in
theorem restore_any (B D : Nat) (x : VW) (u : Value) (us : List Value) (o : OW) (dv : Value) (k j : Nat) (w : World) (H : DrV B w D x u us o dv (k : Int) (j : Int)) (hk : k < x.vs.length) (hj : j < x.vs.length) (hl : shV x.vs) (hB : B ≤ w.heap.size) :
  Calls Tryz.prog 68 #[.pointer (some ⟨D, 0, none⟩)] w fun e w' => DoQ B w D ⟨x.cp, x.fr, x.nx, x.vs.set k (setMp (setSz x.vs[k] x.vs[j].sz) x.vs[j].mp)⟩ o dv (k : Int) (j : Int) e w' := by
 obtain ⟨g, c, sa, sc, rfl, hg, hus, hV, hn, hfr⟩ := H.ow.volc hj
 obtain ⟨g', c', ka, kc, e', _, husk, hVk, _, _⟩ := H.ow.volc hk
 simp only [Value.slice.injEq, Option.some.injEq, Addr.mk.injEq, true_and, and_true] at e'
 obtain ⟨rfl, rfl⟩ := e'
 have hu : k < us.length := by rw [H.ow.len]; exact hk
 have hs16 : x.vs[j].mp.length ≤ 16777216 := hl.2 _ (List.getElem_mem hj)
 have HSv := hid (volume_any D x g 0 x.vs.length c k o dv (j : Int) w H.dr hk)
 have HSs : Hid (∀ q, Calls Tryz.prog 92 #[.pointer (some ⟨D, 0, none⟩)] (w.drewN q) fun e w' => e = .returned (.pointer (some ⟨g, 0 + j * 7, none⟩)) ∧ ∃ q', w' = (w.drewN q).drewN q') := fun q => second_any D x g 0 x.vs.length c j o dv (k : Int) (w.drewN q) H.dr hj
 have hdj := H.ow.dat j hj
 rw [hus] at hdj
 generalize hsk : x.vs[k] = t at *
 generalize hs : x.vs[j] = s at *
 have HF0 : Hid (∀ W2, W2.heap = w.heap → Below w.heap.size w W2 → (W2.cell? ⟨g, j * 7 + 2, none⟩ = some (.int .i64 s.sz) ∧ W2.cell? ⟨g, j * 7 + 6, none⟩ = some (.slice sa s.mp.length sc)) ∧ (Calls Tryz.prog 50 #[.slice sa s.mp.length sc] W2.drew fun e w' => ∃ v, e = .returned v ∧ OwR W2.drew.heap.size w' v s.mp ∧ Below W2.drew.heap.size W2.drew w') ∧ (∀ w3, Below W2.drew.heap.size W2.drew w3 → w3.cell? ⟨g, j * 7 + 2, none⟩ = some (.int .i64 s.sz) ∧ w3.cell? ⟨g, j * 7 + 6, none⟩ = some (.slice sa s.mp.length sc)) ∧ ∀ w3 za zc, OwR W2.drew.heap.size w3 (.slice za s.mp.length zc) s.mp → Below W2.drew.heap.size W2.drew w3 → (w3.cell? ⟨g, k * 7 + 2, none⟩ = some (.int .i64 t.sz) ∧ w3.frozen? ⟨g, k * 7 + 2, none⟩ = false ∧ w3.cell? ⟨g, k * 7 + 6, none⟩ = some (.slice ka t.mp.length kc) ∧ w3.frozen? ⟨g, k * 7 + 6, none⟩ = false) ∧ ((w3.setCell ⟨g, k * 7 + 2, none⟩ (.int .i64 s.sz)).cell? ⟨g, j * 7 + 2, none⟩ = some (.int .i64 s.sz) ∧ (w3.setCell ⟨g, k * 7 + 2, none⟩ (.int .i64 s.sz)).cell? ⟨g, j * 7 + 6, none⟩ = some (.slice sa s.mp.length sc)) ∧ Hid (∀ y, y = (w3.setCell ⟨g, k * 7 + 2, none⟩ (.int .i64 s.sz)).setCell ⟨g, k * 7 + 6, none⟩ (.slice za s.mp.length zc) → (∃ u' us', DrV B y D ⟨x.cp, x.fr, x.nx, x.vs.set k (setMp (setSz t s.sz) s.mp)⟩ u' us' o dv (k : Int) (j : Int)) ∧ BelK B w y)) := fun W2 hH2 hb2 => by
  have hz2 : W2.heap.size = w.heap.size := by rw [hH2]
  have H2 := H.next hb2
  have cw : ∀ i, W2.cell? ⟨g, i, none⟩ = w.cell? ⟨g, i, none⟩ := fun i => by simp only [World.cell?, hH2]
  have fw : ∀ i, W2.frozen? ⟨g, i, none⟩ = w.frozen? ⟨g, i, none⟩ := fun i => by simp only [World.frozen?, hH2]
  obtain ⟨_, _, j2, _, _, _, j6⟩ := hV
  obtain ⟨_, _, k2, _, _, _, k6⟩ := hVk
  have hgl := (H.ow.blk hg).2.1
  have hbg := (H.ow.blk hg).1
  have h3 : ∀ w3, Below W2.drew.heap.size W2.drew w3 → ∀ i, w3.heap[g]? = w.heap[g]? ∧ w3.cell? ⟨g, i, none⟩ = w.cell? ⟨g, i, none⟩ ∧ w3.frozen? ⟨g, i, none⟩ = w.frozen? ⟨g, i, none⟩ := fun w3 hb i => by
   have : w3.heap[g]? = w.heap[g]? := (hb.block g (by show g < W2.heap.size; omega)).trans (by show W2.heap[g]? = _; rw [hH2])
   exact ⟨this, by simp only [World.cell?, this], by simp only [World.frozen?, this]⟩
  refine ⟨⟨(cw _).trans j2, (cw _).trans j6⟩, ?_, fun w3 hb => ⟨(h3 w3 hb _).2.1.trans j2, (h3 w3 hb _).2.1.trans j6⟩, fun w3 za zc hz hb => ⟨⟨(h3 w3 hb _).2.1.trans k2, (h3 w3 hb _).2.2.trans (hfr _), (h3 w3 hb _).2.1.trans k6, (h3 w3 hb _).2.2.trans (hfr _)⟩, ⟨?_, ?_⟩, hid (fun y hy => ?_)⟩⟩
  ·have h1 : OwR B W2 (.slice sa s.mp.length sc) s.mp := own_next hdj hb2
   obtain ⟨a', c', e, hR, hn'⟩ := h1.rd
   simp only [Value.slice.injEq, true_and] at e
   obtain ⟨rfl, rfl⟩ := e
   exact CloneR_any sa sc s.mp W2.drew hR hn' hs16
  ·by_cases e : k = j
   ·subst e
    exact World.cell?_setCell_same _ _ _ ((h3 w3 hb _).2.1.trans j2)
   ·rw [World.cell?_setCell_other _ _ _ _ (by simp <;> omega)]
    exact (h3 w3 hb _).2.1.trans j2
  ·rw [World.cell?_setCell_other _ _ _ _ (by simp <;> omega)]
   exact (h3 w3 hb _).2.1.trans j6
  ·have hb' : Below W2.heap.size W2 w3 := undrew hb
   have hSz := H2.updS s.sz hk
   have hlen2 : (x.vs.set k (setSz x.vs[k] s.sz)).length = x.vs.length := List.length_set ..
   have hk2 : k < (x.vs.set k (setSz x.vs[k] s.sz)).length := by rw [hlen2]; exact hk
   have hget : (x.vs.set k (setSz x.vs[k] s.sz))[k]'hk2 = setSz t s.sz := by rw [List.getElem_set, if_pos rfl]; exact congrArg (fun v => setSz v s.sz) hsk
   rw [← hlen2] at hSz
   have hzg : (Value.slice za s.mp.length zc).ownBlock ≠ some g := fun e => by
    have := (own_blk hz e).1
    have : W2.drew.heap.size = W2.heap.size := rfl
    omega
   have hz4 : OwR B (w3.setCell ⟨g, k * 7 + 2, none⟩ (.int .i64 s.sz)) (.slice za s.mp.length zc) s.mp := own_set (own_mono hz (by show B ≤ W2.heap.size; omega)) (p := ⟨g, k * 7 + 2, none⟩) hzg _
   have hgr : (W2.setCell ⟨g, k * 7 + 2, none⟩ (.int .i64 s.sz)).grownBy (w3.setCell ⟨g, k * 7 + 2, none⟩ (.int .i64 s.sz)) us[k].ownBlock := ⟨hb'.os, hb'.tape, hb'.output, by simpa [World.setCell] using hb'.size, fun i hi _ => set_below hb' i (by simpa [World.setCell] using hi)⟩
   have hup := hSz.upd (Nat.le_trans (show B ≤ W2.heap.size by omega) (Nat.le_of_eq (by simp [World.setCell]))) hk2 hu hz4 hgr (fun b hbb => .inr (by
    have := (own_blk hz hbb).1
    have e1 : W2.drew.heap.size = W2.heap.size := rfl
    have e2 : (W2.setCell ⟨g, k * 7 + 2, none⟩ (.int .i64 s.sz)).heap.size = W2.heap.size := by simp [World.setCell]
    omega))
   rw [hget] at hup
   dsimp only at hup
   rw [List.set_set, ← hy] at hup
   have h1 := hup.1
   refine ⟨⟨_, _, ⟨h1.dr, ⟨h1.ow.len, h1.ow.row, h1.ow.dat⟩, h1.ap, h1.hD⟩⟩, ?_⟩
   rw [hy]
   have kg : KdOk w3 g := (KdOk.own (own_next H2.ow.row hb') rfl (by decide) (by decide)).2
   exact (((BelK.low hb2 rfl hB).trans (BelK.low hb' rfl (by omega))).set (p := ⟨g, k * 7 + 2, none⟩) hbg kg _).set (p := ⟨g, k * 7 + 6, none⟩) hbg (kg.set _ _) _
 clear H hus husk hn hs hsk hdj hl hk hj hB hg hV hVk hs16 hfr hu
 have mixed : Tryz.prog.follows Departure.mixedOrders = true := by kernel_rfl
 go_enter Tryz.func68, Tryz.ntmps68
 go_wp2_with fail
 refine HSv.out.mono ?_
 rintro e w1 ⟨rfl, q, rfl⟩
 go_wp2_with fail
 refine (HSs.out q).mono ?_
 rintro e w2 ⟨rfl, q', rfl⟩
 obtain ⟨W2, hW2⟩ : ∃ W2, W2 = (w.drewN q).drewN q' := ⟨_, rfl⟩
 have hH2 : W2.heap = w.heap := by rw [hW2]; rfl
 have hb2 : Below w.heap.size w W2 := by rw [hW2]; exact (below_drewN' _ _ _).trans (below_drewN' _ _ _)
 rw [← hW2]
 simp only [Nat.zero_add]
 obtain ⟨⟨j2, j6⟩, hCl, hK, hF⟩ := HF0.out W2 hH2 hb2
 have HCl := hid hCl
 have HK := hid hK
 have HF := hid hF
 clear hW2 hH2 hb2 hCl hK hF HF0 HSv HSs
 go_wp2_with fail
 refine wp_region_last (S := (fun y => y.cell? ⟨g, j * 7 + 2, none⟩ = some (.int .i64 s.sz) ∧ y.cell? ⟨g, j * 7 + 6, none⟩ = some (.slice sa s.mp.length sc))) 16 16 (by kernel_rfl) (by kernel_rfl) (by kernel_rfl) ⟨j2, j6⟩ (fun hSS => ?_)
 refine Ti 0 rfl ?_
 refine Ti 1 rfl ?_
 refine Ti 2 rfl ?_
 refine Ti 3 rfl ?_
 try simp only [Act.put, zA, zB, zC]
 refine Ti 4 rfl ?_
 refine Ti 5 rfl ?_
 refine Ti 6 rfl ?_
 refine Ti 7 rfl ?_
 try simp only [Act.put, zA, zB, zC]
 refine Ti 8 rfl ?_
 refine Ti 9 rfl ?_
 try simp only [Act.put, zA, zB, zC]
 refine Ri 10 rfl (fun K9 hK9 => ?_)
 go_simp
 go_at_call 50
 refine HCl.out.mono ?_
 rintro e w3 ⟨z, rfl, hz, hb3⟩
 obtain ⟨za, zc, rfl⟩ := own_any hz
 obtain ⟨⟨c2, f2, c6, f6⟩, hk13, hfin⟩ := HF.out w3 _ _ hz hb3
 refine hK9.out _ _ (HK.out w3 hb3) (fun hSS => ?_)
 try simp only [Act.put, zA, zB, zC]
 refine Ti 11 rfl ?_
 refine Ti 12 rfl ?_
 try simp only [Act.put, zA, zB, zC]
 refine Ri 13 rfl (fun K9 hK9 => ?_)
 go_simp
 refine hK9.out _ _ hk13 (fun hSS => ?_)
 try simp only [Act.put, zA, zB, zC]
 refine Ti 14 rfl ?_
 refine Ti 15 rfl ?_
 try simp only [Act.put, zA, zB, zC]
 refine Dn ?_
 refine last_step (L := 16) (o := ({ dst := none, op := Op.store 36 (Operand.tmp 22) (Operand.tmp 18), type := 0, pos := _, after := _, guard := none } : Oper)) rfl (fun K9 hK9 => ?_)
 go_simp
 refine hK9.out _ _ ?_
 try simp only [Act.put, zA, zB, zC]
 go_wp2
 go_end0
 obtain ⟨h1, h2⟩ := hfin.out _ rfl
 exact ⟨rfl, h1, h2⟩
end Go.Proofs.YtddddfankeepkaaGreatDoor
namespace Go.Proofs.YtddddfankeepkaaGreatDoor
open Go.RowKit
set_option maxRecDepth 100000 in
set_option maxHeartbeats 1000000 in
theorem CloneN (w : World) (ad : Addr) (c : Nat) :
  Calls Tryz.prog 49 #[.slice (some ad) 0 c] w fun e w' => ∃ v, e = .returned v ∧ w'.ownsRow w.heap.size 38 7 v 0 [] ∧ Below w.heap.size w w' := by
 have hr0 : (binOp .eql 22 (.slice (some ad) 0 c) (.slice none 0 0)).run Tryz.prog w = .ok (.bool false) w := Go.Lib.run_eql_slice_nil w 22 38 (some ad) _ c 0 0 Tryz.underlying22
 have ow0 : (w.alloc (.cells #[] 38)).ownsRow w.heap.size 38 7 (.slice (some ⟨w.heap.size, 0, none⟩) 0 0) 0 [] := ⟨rfl, .inr ⟨w.heap.size, 0, #[], rfl, Nat.le_refl _, heap_new _ _, Nat.le_refl _, Nat.zero_le _, rfl, rfl⟩⟩
 have b0 : Below w.heap.size w (w.alloc (.cells #[] 38)) := below1 _ _
 obtain ⟨i0, hi, hz0, hz1, hz2⟩ := info_parts info30
 obtain ⟨v', w', hr, h2, h3, _, _⟩ := run_append_own_at (P := Tryz.prog) (w.alloc (.cells #[] 38)) w.heap.size 22 22 38 i0 _ 7 80 Tryz.underlying22 hi hz0 hz1 hz2 rfl (by decide) _ 0 [] ow0 ad 0 c [] rfl (fun j u hu => by simp at hu) (fun u hu => by cases hu) (by unfold maxLen; omega) (by omega) (by simp)
 have HO := hid h2
 have HB : Hid (Below w.heap.size w w') := b0.trans ⟨h3.os, h3.tape, h3.output, h3.size, fun k hk => h3.block k (by simp; omega) (fun e => by simp [Value.ownBlock] at e; omega)⟩
 clear ow0 b0 h2 h3 hi hz0 hz1 hz2
 go_enter Tryz.func49, Tryz.ntmps49
 go_wp2_with (at_builtin; refine Lib.wpList_append_run _ rfl _ _ _ _ rfl _ _ rfl rfl _ _ hr ?_)
 go_ret
 exact ⟨v', rfl, by simpa using HO.out, HB.out⟩
theorem CloneV_gen {B : Nat} (a : Option Addr) (c : Nat) (vs : List PV) (w : World) (hB : B ≤ w.heap.size) (hR : RdV B w a vs) (ha : a = none → c = 0) (hn : vs.length ≤ 16777216) :
  ∃ us : List Value, us.length = vs.length ∧ (∀ (j : Nat) (hj : j < vs.length) (hu : j < us.length), ∃ a' c', us[j] = .slice a' vs[j].mp.length c' ∧ RdR B w a' vs[j].mp ∧ (a' = none → c' = 0)) ∧
   Calls Tryz.prog 49 #[.slice a vs.length c] w fun e w' => ∃ v, e = .returned v ∧ w'.ownsRow w.heap.size 38 7 v vs.length (flatV vs us) ∧ Below w.heap.size w w' := by
 cases a with
 | none =>
  obtain rfl : vs = [] := by
   rcases hR with h | ⟨_, _, h, _⟩
   ·exact h
   ·cases h
  obtain rfl := ha rfl
  refine ⟨[], rfl, fun j hj => by simp at hj, ?_⟩
  have hr : (binOp .eql 22 (.slice none 0 0) (.slice none 0 0)).run Tryz.prog w = .ok (.bool true) w := Go.Lib.run_eql_slice_nil w 22 38 none 0 0 0 0 Tryz.underlying22
  have HO : Hid (w.ownsRow w.heap.size 38 7 (.slice none 0 0) 0 (flatV [] [])) := ⟨rfl, .inl ⟨rfl, rfl⟩⟩
  have HB := hid (Below.refl w.heap.size w)
  clear hR ha hn
  show Calls Tryz.prog 49 #[.slice none 0 0] w _
  go_enter Tryz.func49, Tryz.ntmps49
  go_wp2
  go_ret
  exact ⟨_, rfl, HO.out, HB.out⟩
 | some ad =>
  obtain ⟨b, off, sp⟩ := ad
  have hsp : vs = [] ∨ sp = none ∧ b < w.heap.size := by
   rcases hR with h | ⟨b', off', h, hlt, _⟩
   ·exact .inl h
   ·simp only [Option.some.injEq, Addr.mk.injEq] at h
    exact .inr ⟨h.2.2, by omega⟩
  rcases hsp with rfl | ⟨rfl, hb⟩
  ·refine ⟨[], rfl, fun j hj => by simp at hj, ?_⟩
   exact CloneN w ⟨b, off, sp⟩ c
  ·obtain ⟨us, h1, h2, h3, h4⟩ := hR.flat
   exact ⟨us, h1, h4, CloneV_any b off c vs us w h1 h2 h3 (.inl hb) hn⟩
theorem flatV_setU (vs : List PV) (us : List Value) (k : Nat) (hk : k < vs.length) (z : Value) (h : us.length = vs.length) : flatV vs (us.set k z) = (flatV vs us).set (k * 7 + 6) z := by
 have := flatV_set6 vs us k hk vs[k].mp z h
 rw [show setMp vs[k] vs[k].mp = vs[k] from rfl, List.set_getElem_self] at this
 exact this
theorem RdR.back {B : Nat} {w w' : World} {a : Option Addr} {rs : List Rg} (h : RdR B w' a rs) (hb : Below B w w') : RdR B w a rs := by
 rcases h with h | ⟨b, off, rfl, hlt, hc⟩
 ·exact .inl h
 ·exact .inr ⟨b, off, rfl, hlt, fun j hj => ⟨(hb.cell (by exact hlt)).symm.trans (hc j hj).1, (hb.cell (by exact hlt)).symm.trans (hc j hj).2⟩⟩
structure DfS2 (w wr : World) (P : Nat) (x : VW) (v : Value) (i : Nat) (us0 us : List Value) : Prop where
 len : us.length = x.vs.length
 len0 : us0.length = x.vs.length
 hP : w.heap.size ≤ P
 bx : VwB wr P x v
 row : wr.ownsRow w.heap.size 38 7 v x.vs.length (flatV x.vs us)
 own : ∀ (j : Nat) (hj : j < x.vs.length), j < i → OwR w.heap.size wr (us[j]'(by omega)) x.vs[j].mp
 ap : ∀ (j l : Nat) (hj : j < us.length) (hl : l < us.length) (g : Nat), j < i → l < i → us[j].ownBlock = some g → us[l].ownBlock = some g → j = l
 old : ∀ (j : Nat) (hj : j < x.vs.length), i ≤ j → us[j]'(by omega) = us0[j]'(by omega)
 bel : Below w.heap.size w wr
theorem DfS2.step {w wr w3 y : World} {P : Nat} {x : VW} {c g : Nat} {i : Nat} {us0 us : List Value} {z : Value} (h : DfS2 w wr P x (.slice (some ⟨g, 0, none⟩) x.vs.length c) i us0 us) (hi : i < x.vs.length) (hb : Below wr.heap.size wr w3) (hz : OwR wr.heap.size w3 z x.vs[i].mp) (hy : y = w3.setCell ⟨g, i * 7 + 6, none⟩ z) :
  DfS2 w y P x (.slice (some ⟨g, 0, none⟩) x.vs.length c) (i + 1) us0 (us.set i z) := by
 have hrow := own_next h.row hb
 obtain ⟨hBg, hgl, cur, hc⟩ := own_blk h.row (g := g) rfl
 have hPg : P ≠ g := fun e => by
  have := h.bx
  unfold VwB at this
  rw [e] at this
  exact absurd (row_kind hc this) (by decide)
 have hzg : z.ownBlock ≠ some g := fun e => by
  have := (own_blk hz e).1
  omega
 refine ⟨by simp [h.len], h.len0, h.hP, ?_, ?_, fun j hj hji => ?_, fun j l hj hl b hji hli h1 h2 => ?_, fun j hj hij => ?_, ?_⟩
 ·rw [hy]
  exact (h.bx.keep (hb.block _ h.bx.lt)).keep (Below.heap_setCell _ _ _ _ hPg)
 ·rw [hy, flatV_setU x.vs us i hi z h.len]
  exact (hrow.stored (i * 7 + 6) z).1
 ·simp only [List.getElem_set]
  rw [hy]
  by_cases e : i = j
  ·subst e
   rw [if_pos rfl]
   exact own_set (own_mono hz (Nat.le_trans h.bel.size (Nat.le_refl _))) (p := ⟨g, i * 7 + 6, none⟩) hzg z
  ·rw [if_neg e]
   have ho := h.own j hj (by omega)
   refine own_set (own_next ho hb) (p := ⟨g, i * 7 + 6, none⟩) (fun e2 => ?_) z
   obtain ⟨_, _, c2, hc2⟩ := own_blk ho e2
   exact absurd (row_kind hc hc2) (by decide)
 ·have hj' : j < us.length := by simpa using hj
  have hl' : l < us.length := by simpa using hl
  rw [List.getElem_set] at h1 h2
  by_cases e1 : i = j
  ·by_cases e2 : i = l
   ·omega
   ·rw [if_pos e1] at h1
    rw [if_neg e2] at h2
    have a1 := (own_blk hz h1).1
    have a2 := (own_blk (h.own l (by rw [← h.len]; exact hl') (by omega)) h2).2.1
    omega
  ·rw [if_neg e1] at h1
   by_cases e2 : i = l
   ·rw [if_pos e2] at h2
    have a1 := (own_blk hz h2).1
    have a2 := (own_blk (h.own j (by rw [← h.len]; exact hj') (by omega)) h1).2.1
    omega
   ·rw [if_neg e2] at h2
    exact h.ap j l hj' hl' b (by omega) (by omega) h1 h2
 ·rw [List.getElem_set, if_neg (by omega)]
  exact h.old j hj (by omega)
 ·rw [hy]
  exact (h.bel.trans (hb.mono h.bel.size)).setCell (p := ⟨g, i * 7 + 6, none⟩) hBg z
def o00 : OW := ⟨0, ByteArray.empty, ByteArray.empty, 0, 0⟩
def DrQ (w : World) (x : VW) (e : Ending) (w' : World) : Prop := ∃ D u us, e = .returned (.pointer (some ⟨D, 0, none⟩)) ∧ DrV w.heap.size w' D x u us o00 (.slice none 0 0) 0 0 ∧ Below w.heap.size w w'
set_option maxRecDepth 100000 in
set_option maxHeartbeats 8000000 in
theorem draftOf_any (x : VW) (a : Option Addr) (c0 : Nat) (w : World) (hl : shV x.vs) (hR : RdV w.heap.size w a x.vs) (ha : a = none → c0 = 0) :
  Calls Tryz.prog 30 #[viewA x a c0] w fun e w' => DrQ w x e w' := by
 obtain ⟨P, hP⟩ : ∃ P, P = w.heap.size := ⟨_, rfl⟩
 obtain ⟨W1, hW1⟩ : ∃ W1, W1 = w.alloc (.cells #[.int .i64 x.cp, .int .i64 x.fr, .int .i64 x.nx, .slice a x.vs.length c0] 24) := ⟨_, rfl⟩
 have b1 : Below w.heap.size w W1 := by rw [hW1]; exact below1 _ _
 have hV1 : VwB W1 P x (.slice a x.vs.length c0) := by rw [hW1, hP]; exact heap_new _ _
 obtain ⟨us0, hu0, hsl, hCl0⟩ := CloneV_gen (B := w.heap.size) a c0 x.vs W1 b1.size (hR.below b1) ha hl.1
 obtain ⟨⟨p0, p1, p2, p3⟩, pf⟩ := hV1.cs
 have f3 := pf 3
 have HCl0 := hid hCl0
 have H0 : Hid (∀ w2 v, w2.ownsRow W1.heap.size 38 7 v x.vs.length (flatV x.vs us0) → Below W1.heap.size W1 w2 → w2.cell? ⟨P, 3, none⟩ = some (.slice a x.vs.length c0) ∧ w2.frozen? ⟨P, 3, none⟩ = false ∧ ∀ y, y = w2.setCell ⟨P, 3, none⟩ v → DfS2 w y P x v 0 us0 us0) := fun w2 v hr hb2 => by
  have hV2 := hV1.keep (hb2.block _ hV1.lt)
  obtain ⟨⟨_, _, _, q3⟩, qf⟩ := hV2.cs
  refine ⟨q3, qf 3, fun y hy => ⟨hu0, hu0, by omega, by rw [hy]; exact hV2.set3 v, ?_, fun j hj h => by omega, fun j l hj hl g h => by omega, fun j hj _ => rfl, ?_⟩⟩
  ·rw [hy]
   have hlt : P < W1.heap.size := hV1.lt
   refine own_set (own_mono hr b1.size) (p := ⟨P, 3, none⟩) (fun e => ?_) v
   have : W1.heap.size ≤ P := (own_blk hr e).1
   omega
  ·rw [hy]
   exact (b1.trans (hb2.mono b1.size)).setCell (p := ⟨P, 3, none⟩) (by rw [hP]; exact Nat.le_refl _) v
 have HSL : Hid (∀ wr, Below w.heap.size w wr → ∀ (j : Nat) (hj : j < x.vs.length) (hu : j < us0.length), ∃ a' c', us0[j] = .slice a' x.vs[j].mp.length c' ∧ RdR wr.heap.size wr a' x.vs[j].mp ∧ (a' = none → c' = 0)) := fun wr hb j hj hu => by
  obtain ⟨a', c', e, hr, hn⟩ := hsl j hj hu
  exact ⟨a', c', e, ((hr.back b1).below hb).mono hb.size, hn⟩
 have HP := hid hP
 have HLN := hid hl
 have hl2 := hl.1
 obtain ⟨n, hn⟩ : ∃ n, x.vs.length = n := ⟨_, rfl⟩
 have HN := hid hn
 rw [hn] at p3 HCl0 hl2 H0 hW1
 have HW1 := hid hW1
 have mixed : Tryz.prog.follows Departure.mixedOrders = true := by kernel_rfl
 clear hP hW1 b1 hV1 hsl hCl0 hR ha hu0 pf hl hn
 dsimp only [viewA]
 rw [HN.out]
 go_enter Tryz.func30, Tryz.ntmps30
 go_wp2_with fail
 rw [← HW1.out, ← HP.out]
 refine HCl0.out.mono ?_
 rintro e w2 ⟨v, rfl, hr2, hb2⟩
 obtain ⟨va, vc, rfl⟩ := own_any hr2
 obtain ⟨q3, qf3, hI⟩ := H0.out w2 _ hr2 hb2
 have HI := hid (hI _ rfl)
 obtain ⟨W2, hW2⟩ : ∃ W2, W2 = w2.setCell ⟨P, 3, none⟩ (.slice va n vc) := ⟨_, rfl⟩
 rw [← hW2] at HI
 have t3 : W2.cell? ⟨P, 3, none⟩ = some (.slice va n vc) := HI.out.bx.cs.1.2.2.2
 have HW2 := hid hW2
 clear hr2 hb2 hI hW2 HCl0 H0 p3
 go_wp2_with fail
 rw [← HW2.out]
 go_wp2_with fail
 go_loopw [11] (fun iv wr => ∃ i us, i ≤ n ∧ iv = .int .i64 ((i : Nat) : Int) ∧ DfS2 w wr P x (.slice va n vc) i us0 us) (fun iv _ => n - (intOf iv).toNat)
 case atStart => exact ⟨0, us0, Nat.zero_le _, rfl, HI.out⟩
 case round =>
  obtain ⟨i, us, hin, rfl, hI⟩ := hrel
  by_cases hlt : i < n
  ·have hix : i < x.vs.length := by have := HN.out; omega
   obtain ⟨ma, mc, em, hRm, hnm⟩ := HSL.out wr hI.bel i hix (by have := hI.len0; omega)
   have eus : us[i]'(by have := hI.len; omega) = .slice ma x.vs[i].mp.length mc := (hI.old i hix (Nat.le_refl _)).trans em
   obtain ⟨g, c, ev⟩ : ∃ g c, (Value.slice va n vc) = .slice (some ⟨g, 0, none⟩) n c := by
    rcases own_form hI.row with ⟨e, q⟩ | ⟨g, c, e, _⟩
    ·omega
    ·exact ⟨g, c, by rw [e, HN.out]⟩
   simp only [Value.slice.injEq, true_and] at ev
   obtain ⟨rfl, rfl⟩ := ev
   have hI' := hI
   rw [← HN.out] at hI'
   obtain ⟨_, hgl, cur, hcur⟩ := own_blk hI'.row (g := g) rfl
   have k3 := hI.bx.cs.1.2.2.2
   have k6 : wr.cell? ⟨g, i * 7 + 6, none⟩ = some (.slice ma x.vs[i].mp.length mc) := by
    have h1 := flatV_at x.vs us hI.len i hix 6 (by omega)
    have h2 := World.ownsRow.cells hI'.row (g := g) rfl (i * 7 + 6) (.slice ma x.vs[i].mp.length mc) (by rw [h1, eus]; rfl)
    rw [Addr.add_lit] at h2
    simpa using h2
   have hm16 : x.vs[i].mp.length ≤ 16777216 := HLN.out.2 _ (List.getElem_mem hix)
   have HCl := hid (CloneR_any ma mc x.vs[i].mp wr.drew hRm hnm hm16)
   have hbx := hI.bx.lt
   have HK : Hid (∀ w3, Below wr.drew.heap.size wr.drew w3 → w3.cell? ⟨P, 3, none⟩ = some (.slice (some ⟨g, 0, none⟩) n vc) ∧ w3.cell? ⟨g, i * 7 + 6, none⟩ = some (.slice ma x.vs[i].mp.length mc)) := fun w3 hb => ⟨(hb.cell (by exact hbx)).trans k3, (hb.cell (by exact hgl)).trans k6⟩
   have HF : Hid (∀ w3 za zc, OwR wr.drew.heap.size w3 (.slice za x.vs[i].mp.length zc) x.vs[i].mp → Below wr.drew.heap.size wr.drew w3 → w3.frozen? ⟨g, i * 7 + 6, none⟩ = false ∧ w3.cell? ⟨g, i * 7 + 6, none⟩ = some (.slice ma x.vs[i].mp.length mc) ∧ Hid (∀ y, y = w3.setCell ⟨g, i * 7 + 6, none⟩ (.slice za x.vs[i].mp.length zc) → DfS2 w y P x (.slice (some ⟨g, 0, none⟩) n vc) (i + 1) us0 (us.set i (.slice za x.vs[i].mp.length zc)))) := fun w3 za zc hz hb => by
    have hg3 : w3.heap[g]? = wr.heap[g]? := hb.block g hgl
    refine ⟨?_, (HK.out w3 hb).2, hid (fun y hy => ?_)⟩
    ·simp only [World.frozen?, hg3, hcur]
     simp
    ·have := hI'.step hix (undrew hb) hz hy
     rw [HN.out] at this
     exact this
   generalize x.vs[i].mp = rsi at *
   have hl1 : (i : Int) < (n : Int) := by omega
   clear hI hI' hRm hnm em eus hcur hgl hm16 hbx HSL HI
   go_wp2_with fail
   refine wp_region_last (S := (fun y => y.cell? ⟨P, 3, none⟩ = some (.slice (some ⟨g, 0, none⟩) n vc) ∧ y.cell? ⟨g, i * 7 + 6, none⟩ = some (.slice ma rsi.length mc))) 12 12 (by kernel_rfl) (by kernel_rfl) (by kernel_rfl) ⟨k3, k6⟩ (fun hSS => ?_)
   refine Ti 0 rfl ?_
   refine Ti 1 rfl ?_
   refine Ti 2 rfl ?_
   refine Ti 3 rfl ?_
   try simp only [Act.put, zA, zB, zC]
   refine Ti 4 rfl ?_
   refine Ti 5 rfl ?_
   refine Ti 6 rfl ?_
   refine Ti 7 rfl ?_
   try simp only [Act.put, zA, zB, zC]
   refine Ti 8 rfl ?_
   try simp only [Act.put, zA, zB, zC]
   refine Ri 9 rfl (fun K9 hK9 => ?_)
   go_simp
   go_at_call 50
   refine HCl.out.mono ?_
   rintro e w3 ⟨z, rfl, hz, hb3⟩
   obtain ⟨za, zc, rfl⟩ := own_any hz
   obtain ⟨fz, k6, hnx⟩ := HF.out w3 _ _ hz hb3
   refine hK9.out _ _ (HK.out w3 hb3) (fun hSS => ?_)
   try simp only [Act.put, zA, zB, zC]
   refine Ti 10 rfl ?_
   refine Ti 11 rfl ?_
   try simp only [Act.put, zA, zB, zC]
   refine Dn ?_
   refine last_step (L := 12) (o := ({ dst := none, op := Op.store 36 (Operand.tmp 25) (Operand.tmp 23), type := 0, pos := _, after := _, guard := none } : Oper)) rfl (fun K9 hK9 => ?_)
   go_simp
   refine hK9.out _ _ ?_
   try simp only [Act.put, zA, zB, zC]
   go_wp2
   go_roundw
   case rel => exact ⟨i + 1, _, by omega, by go_num, hnx.out _ rfl⟩
   case measure => simp [intOf]; omega
  ·have ein : i = n := by omega
   have HD : Hid (∀ y D, D = wr.heap.size → y = wr.alloc (.cells #[.int .i64 x.cp, .int .i64 x.fr, .int .i64 x.nx, .slice va n vc, .int .i64 0, .string ByteArray.empty, .string ByteArray.empty, .int .i64 0, .int .i64 0, .slice none 0 0, .int .i64 0, .int .i64 0] 73) → DrQ w x (.returned (.pointer (some ⟨D, 0, none⟩))) y) := fun y D hD hy => by
    have b : Below wr.heap.size wr y := by rw [hy]; exact below1 _ _
    have hin2 : x.vs.length ≤ i := by have := HN.out; omega
    refine ⟨D, _, us, rfl, ⟨by rw [hy, hD]; exact heap_new _ _, ⟨hI.len, own_next hI.row b, fun j hj => own_next (hI.own j hj (by omega)) b⟩, fun j l hj hl g h1 h2 => hI.ap j l hj hl g (by have := hI.len; omega) (by have := hI.len; omega) h1 h2, by have := hI.bel.size; omega⟩, hI.bel.trans (b.mono hI.bel.size)⟩
   obtain ⟨⟨k0, k1, k2, k3⟩, _⟩ := hI.bx.cs
   have hl1 : ¬ (i : Int) < (n : Int) := by omega
   clear hI HSL HI ein
   go_wp2
   go_ret
   exact HD.out _ _ rfl rfl
end Go.Proofs.YtddddfankeepkaaGreatDoor
