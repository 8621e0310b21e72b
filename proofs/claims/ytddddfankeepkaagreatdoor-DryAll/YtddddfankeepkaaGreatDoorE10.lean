import Derived.Test.YtddddfankeepkaaGreatDoorE09
import Derived.Test.YtddddfankeepkaaGreatDoorE03
namespace Go.Proofs.YtddddfankeepkaaGreatDoor
open Go.RowKit
def BlO (w : World) (g : Nat) (os : List PO) (us : List Value) : Prop := us.length = os.length ∧ w.heap[g]? = some (.cells (flatO os us).toArray 42 (0, 0))
theorem BlO.lt {w : World} {g : Nat} {os : List PO} {us : List Value} (h : BlO w g os us) : g < w.heap.size := (Array.getElem?_eq_some_iff.1 h.2).1
theorem BlO.keep {w w' : World} {g : Nat} {os : List PO} {us : List Value} (h : BlO w g os us) (hw : w'.heap[g]? = w.heap[g]?) : BlO w' g os us := ⟨h.1, by rw [hw]; exact h.2⟩
theorem BlO.at {w : World} {g : Nat} {os : List PO} {us : List Value} (h : BlO w g os us) (j : Nat) (hj : j < os.length) (i : Nat) (hi : i < 6) : w.cell? ⟨g, j * 6 + i, none⟩ = (cells6 os[j] (us[j]'(by have := h.1; omega)))[i]? := by
 have h2 := h.2
 simp only [World.cell?, h2]
 rw [List.getElem?_toArray, flatO_at os us h.1 j hj i hi]
 simp
theorem BlO.frozen {w : World} {g : Nat} {os : List PO} {us : List Value} (h : BlO w g os us) (i : Nat) : w.frozen? ⟨g, i, none⟩ = false := by
 have h2 := h.2
 simp [World.frozen?, h2]
theorem BlO.cs6 {w : World} {g : Nat} {os : List PO} {us : List Value} (h : BlO w g os us) (j : Nat) (hj : j < os.length) : ∃ v0 v1 v2 v3 v4 v5, w.cell? ⟨g, j * 6, none⟩ = some v0 ∧ w.cell? ⟨g, j * 6 + 1, none⟩ = some v1 ∧ w.cell? ⟨g, j * 6 + 2, none⟩ = some v2 ∧ w.cell? ⟨g, j * 6 + 3, none⟩ = some v3 ∧ w.cell? ⟨g, j * 6 + 4, none⟩ = some v4 ∧ w.cell? ⟨g, j * 6 + 5, none⟩ = some v5 := by
 have k := fun i hi => h.at j hj i hi
 exact ⟨_, _, _, _, _, _, k 0 (by omega), k 1 (by omega), k 2 (by omega), k 3 (by omega), k 4 (by omega), k 5 (by omega)⟩
theorem flatO_set : ∀ (os : List PO) (us : List Value) (i : Nat) (o : PO) (u : Value), us.length = os.length → i < os.length → flatO (os.set i o) (us.set i u) = ((((((flatO os us).set (i * 6) (.int .i64 o.k)).set (i * 6 + 1) (.string o.nm)).set (i * 6 + 2) (.string o.ot)).set (i * 6 + 3) (.int .i64 o.fr)).set (i * 6 + 4) (.int .i64 o.tt)).set (i * 6 + 5) u
 | [], _, i, o, u, _, h => by simp at h
 | _ :: _, [], _, _, _, h, _ => by simp at h
 | x :: ts, y :: us, 0, o, u, _, h => by simp [flatO, cells6]
 | x :: ts, y :: us, i + 1, o, u, hl, h => by
  have ih := flatO_set ts us i o u (by simpa using hl) (by simpa using h)
  rw [List.set_cons_succ, List.set_cons_succ, flatO, ih, flatO, show (i + 1) * 6 = i * 6 + 6 by omega]
  simp [cells6]
theorem flatO_set5 : ∀ (os : List PO) (us : List Value) (i : Nat) (u : Value), us.length = os.length → i < os.length → flatO os (us.set i u) = (flatO os us).set (i * 6 + 5) u
 | [], _, i, u, _, h => by simp at h
 | _ :: _, [], _, _, h, _ => by simp at h
 | x :: ts, y :: us, 0, u, _, h => by simp [flatO, cells6]
 | x :: ts, y :: us, i + 1, u, hl, h => by
  have ih := flatO_set5 ts us i u (by simpa using hl) (by simpa using h)
  rw [List.set_cons_succ, flatO, ih, flatO, show (i + 1) * 6 = i * 6 + 6 by omega]
  simp [cells6]
def at6 (w : World) (g k : Nat) (o : PO) (u : Value) : World := (((((w.setCell ⟨g, k, none⟩ (.int .i64 o.k)).setCell ⟨g, k + 1, none⟩ (.string o.nm)).setCell ⟨g, k + 2, none⟩ (.string o.ot)).setCell ⟨g, k + 3, none⟩ (.int .i64 o.fr)).setCell ⟨g, k + 4, none⟩ (.int .i64 o.tt)).setCell ⟨g, k + 5, none⟩ u
theorem BlO.set6 {w : World} {g : Nat} {os : List PO} {us : List Value} (h : BlO w g os us) (i : Nat) (o : PO) (u : Value) (hi : i < os.length) : BlO (at6 w g (i * 6) o u) g (os.set i o) (us.set i u) := by
 refine ⟨by simp [h.1], ?_⟩
 rw [flatO_set os us i o u h.1 hi]
 unfold at6
 simp only [World.setCell, Array.getElem?_modify, if_true]
 rw [h.2]
 simp
theorem BlO.set5 {w : World} {g : Nat} {os : List PO} {us : List Value} (h : BlO w g os us) (i : Nat) (u : Value) (hi : i < os.length) : BlO (w.setCell ⟨g, i * 6 + 5, none⟩ u) g os (us.set i u) := by
 refine ⟨by simp [h.1], ?_⟩
 rw [flatO_set5 os us i u h.1 hi]
 simp only [World.setCell, Array.getElem?_modify, if_true]
 rw [h.2]
 simp
theorem but_at6 (w : World) (g k : Nat) (o : PO) (u : Value) : But (fun x => x = g) w (at6 w g k o u) := by
 unfold at6
 exact (((((((But.refl (fun x => x = g) w).setCell (p := ⟨g, k, none⟩) rfl _).setCell (p := ⟨g, k + 1, none⟩) rfl _).setCell (p := ⟨g, k + 2, none⟩) rfl _).setCell (p := ⟨g, k + 3, none⟩) rfl _).setCell (p := ⟨g, k + 4, none⟩) rfl _).setCell (p := ⟨g, k + 5, none⟩) rfl _)
theorem made_op (n : Nat) : madeCells #[.int .i64 0, .string ByteArray.empty, .string ByteArray.empty, .int .i64 0, .int .i64 0, .slice none 0 0] (n * 6) = (flatO (List.replicate n PO0) (List.replicate n (.slice none 0 0))).toArray := by
 rw [← Array.toList_inj]
 apply List.ext_getElem?
 intro j
 by_cases hj : j < n * 6
 ·have h1 := flatO_at (List.replicate n PO0) (List.replicate n (.slice none 0 0)) (by simp) (j / 6) (by rw [List.length_replicate]; omega) (j % 6) (by omega)
  rw [show j / 6 * 6 + j % 6 = j by omega] at h1
  rw [h1, List.getElem_replicate, List.getElem_replicate]
  simp only [madeCells, Array.toList_map, Array.toList_range, List.getElem?_map, List.getElem?_range hj, Option.map_some]
  rcases (show j % 6 = 0 ∨ j % 6 = 1 ∨ j % 6 = 2 ∨ j % 6 = 3 ∨ j % 6 = 4 ∨ j % 6 = 5 by omega) with h | h | h | h | h | h <;> simp [h, cells6, PO0] <;> rfl
 ·rw [List.getElem?_eq_none (by simp [madeCells]; omega), List.getElem?_eq_none (by show (flatO _ _).length ≤ j; rw [flatO_len _ _ (by simp)]; simp; omega)]
theorem make_op (n : Nat) (hn : n ≤ 67108864) (u : World) : (Instr.makeSlice 25 (.int .i64 (n : Int)) (.int .i64 (n : Int))).run Tryz.prog u =
  .ok (.slice (some ⟨u.heap.size, 0, none⟩) n n) (u.alloc (.cells (flatO (List.replicate n PO0) (List.replicate n (.slice none 0 0))).toArray 42)) := by
 obtain ⟨i0, hi, hz0, hz1, hz2⟩ := info_parts info42
 have h := run_make (P := Tryz.prog) u 25 42 i0 _ Tryz.underlying25 hi hz0 .i64 .i64 (n : Int) (n : Int) (by omega) (Int.le_refl _) (by rw [hz2]; omega) (by omega)
 have e : ((n : Int)).toNat = n := by omega
 rw [e] at h
 rw [← made_op]
 simpa [hz1, Value.cells] using h
/-! ### operations that are lent -/
def behO (k : Nat) : PO := ⟨-9 - (k : Int), cE, cE, 0, 0, []⟩
def bh (M : Nat) : List PO := (List.range M).map behO
theorem bh_len (M : Nat) : (bh M).length = M := by simp [bh]
theorem bh_at (M k : Nat) (h : k < (bh M).length) : (bh M)[k] = behO k := by simp [bh]
theorem bh_succ (n : Nat) : bh (n + 1) = bh n ++ [behO n] := by simp [bh, List.range_succ]
theorem rep_set {α : Type} (A : List α) (m : Nat) (z v : α) {k : Nat} (hk : k = A.length) : (A ++ List.replicate (m + 1) z).set k v = (A ++ [v]) ++ List.replicate m z := by
 subst hk
 rw [List.set_append_right _ _ (Nat.le_refl _), Nat.sub_self, List.replicate_succ, List.set_cons_zero, List.append_assoc]
 rfl
theorem set_drop {α : Type} (A Z : List α) (v : α) {k : Nat} (hk : k = A.length) (h : k < Z.length) : (A ++ Z.drop k).set k v = (A ++ [v]) ++ Z.drop (k + 1) := by
 rw [List.set_append_right _ _ (by omega), hk, Nat.sub_self, ← hk, List.drop_eq_getElem_cons h, List.set_cons_zero, List.append_assoc]
 rfl
structure LoS (B : Nat) (w : World) (F : Nat) (os : List PO) (us : List Value) (M : Nat) : Prop where
 len : us.length = os.length
 le : os.length ≤ M
 bl : BlO w F (os ++ (bh M).drop os.length) (us ++ List.replicate (M - os.length) nilS)
 dat : ∀ i (h : i < os.length), Ow B w (us[i]'(by omega)) os[i].da
 hF : B ≤ F
theorem LoS.next {B : Nat} {w w' : World} {F M : Nat} {os : List PO} {us : List Value} (h : LoS B w F os us M) (hb : Below w.heap.size w w') : LoS B w' F os us M :=
 ⟨h.len, h.le, h.bl.keep (hb.block _ h.bl.lt), fun i hi => (h.dat i hi).next hb, h.hF⟩
theorem BlO.ne {w : World} {g : Nat} {os : List PO} {us : List Value} (h : BlO w g os us) {B : Nat} {u : Value} {zs : List Int} (hu : Ow B w u zs) : u.ownBlock ≠ some g := by
 intro e
 obtain ⟨_, _, c1, h1⟩ := own_blk hu e
 rw [h.2] at h1
 simp at h1
theorem LoS.push {B : Nat} {w w' : World} {F M : Nat} {os : List PO} {us : List Value} (h : LoS B w F os us M) (hM : os.length < M) (o : PO) (u : Value) (hu : Ow B w u o.da) (hw : w' = at6 w F (os.length * 6) o u) : LoS B w' F (os ++ [o]) (us ++ [u]) M := by
 obtain ⟨m, hm⟩ : ∃ m, M - os.length = m + 1 := ⟨M - os.length - 1, by omega⟩
 have h1 := h.bl
 rw [hm] at h1
 have h2 := h1.set6 os.length o u (by simp [bh_len]; omega)
 rw [set_drop os (bh M) o rfl (by rw [bh_len]; exact hM), rep_set us m nilS u h.len.symm, ← hw] at h2
 have bt : But (fun x => x = F) w w' := by rw [hw]; exact but_at6 _ _ _ _ _
 refine ⟨by simp [h.len], by simp; omega, ?_, fun i hi => ?_, h.hF⟩
 ·rw [List.length_append, List.length_singleton, show M - (os.length + 1) = m by omega]
  exact h2
 ·have kp : ∀ {v : Value} {zs : List Int}, Ow B w v zs → Ow B w' v zs := fun hv => hv.keep fun g hg => bt.block g (hv.lt g hg) (fun e => h.bl.ne hv (e ▸ hg))
  by_cases he : i < os.length
  ·rw [List.getElem_append_left (by have := h.len; omega)]
   simp only [List.getElem_append_left he]
   exact kp (h.dat i he)
  ·simp only [List.length_append, List.length_cons, List.length_nil] at hi
   have e : i = os.length := by omega
   subst e
   have e2 : (us ++ [u])[os.length]'(by simp [h.len]) = u := by
    rw [List.getElem_append_right (by rw [h.len]; exact Nat.le_refl _)]
    simp
   simp only [List.getElem_append_right (Nat.le_refl _), Nat.sub_self, List.getElem_cons_zero]
   rw [e2]
   exact kp hu
def LoQ (w : World) (os : List PO) (e : Ending) (w' : World) : Prop := ∃ F us, e = .returned (.slice (some ⟨F, 0, none⟩) os.length (2 * os.length + 70)) ∧ LoS w.heap.size w' F os us (2 * os.length + 70) ∧ Below w.heap.size w w'
end Go.Proofs.YtddddfankeepkaaGreatDoor
namespace Go.Proofs.YtddddfankeepkaaGreatDoor
open Go.RowKit
set_option maxRecDepth 100000 in
set_option maxHeartbeats 4000000 in
theorem LendOps_any (z : Option Addr) (zc : Nat) (os : List PO) (w : World) (hl : os.length ≤ 2097152) (hR : RdO w.heap.size w z os) :
  Calls Tryz.prog 23 #[.slice z os.length zc] w (LoQ w os) := by
 obtain ⟨PQ, hPQ⟩ : ∃ PQ, PQ = LoQ w os := ⟨_, rfl⟩
 rw [← hPQ]
 have HPQ := hid hPQ
 obtain ⟨B, hB⟩ : ∃ B, B = w.heap.size := ⟨_, rfl⟩
 have HB := hid hB
 have HR : Hid (RdO B w z os) := by unfold Hid; rw [hB]; exact hR
 obtain ⟨n, hn⟩ : ∃ n, n = os.length := ⟨_, rfl⟩
 have HN := hid hn
 have hn2 : n ≤ 2097152 := by omega
 have hmk := fun u => make_op (2 * n + 70) (by omega) u
 rw [show ((2 * n + 70 : Nat) : Int) = 2 * (n : Int) + 70 by omega] at hmk
 obtain ⟨TF, hTF⟩ : ∃ TF, TF = (flatO (List.replicate (2 * n + 70) PO0) (List.replicate (2 * n + 70) (.slice none 0 0))).toArray := ⟨_, rfl⟩
 simp only [← hTF] at hmk
 have HI0 : Hid (BlO (w.alloc (.cells TF 42)) B (bh 0 ++ List.replicate (2 * n + 70 - 0) PO0) (List.replicate (2 * n + 70) nilS) ∧ Below B w (w.alloc (.cells TF 42))) := ⟨⟨by simp [bh], by rw [hTF, hB]; exact heap_new _ _⟩, by rw [hB]; exact below1 _ _⟩
 rw [← hn]
 clear hPQ hR hTF hn hl
 go_enter Tryz.func23, Tryz.ntmps23
 go_wp2_with fail
 rw [← HB.out]
 clear hmk hB
 go_loopw [4] (fun kv wi => ∃ k : Nat, kv = .int .i64 (k : Int) ∧ k ≤ 2 * n + 70 ∧ BlO wi B (bh k ++ List.replicate (2 * n + 70 - k) PO0) (List.replicate (2 * n + 70) nilS) ∧ Below B w wi) (fun kv _ => 2 * n + 70 - (intOf kv).toNat)
 case atStart => exact ⟨0, rfl, Nat.zero_le _, HI0.out.1, HI0.out.2⟩
 case round =>
  clear HI0
  obtain ⟨k, rfl, hk, hBl, hb⟩ := hrel
  by_cases q : k < 2 * n + 70
  ·obtain ⟨v0, v1, v2, v3, v4, v5, u0, u1, u2, u3, u4, u5⟩ := hBl.cs6 k (by rw [List.length_append, bh_len, List.length_replicate]; omega)
   have uf := hBl.frozen
   have HNX : Hid (∀ W, W = (((((wr.setCell ⟨B, k * 6, none⟩ (.int .i64 (-9 - (k : Int)))).setCell ⟨B, k * 6 + 1, none⟩ (.string ByteArray.empty)).setCell ⟨B, k * 6 + 2, none⟩ (.string ByteArray.empty)).setCell ⟨B, k * 6 + 3, none⟩ (.int .i64 0)).setCell ⟨B, k * 6 + 4, none⟩ (.int .i64 0)).setCell ⟨B, k * 6 + 5, none⟩ (.slice none 0 0) → BlO W B (bh (k + 1) ++ List.replicate (2 * n + 70 - (k + 1)) PO0) (List.replicate (2 * n + 70) nilS) ∧ Below B w W) := fun W hW => by
    have h6 := hBl.set6 k (behO k) nilS (by rw [List.length_append, bh_len, List.length_replicate]; omega)
    have eW : at6 wr B (k * 6) (behO k) nilS = W := hW.symm
    rw [show 2 * n + 70 - k = (2 * n + 70 - (k + 1)) + 1 by omega, rep_set _ _ _ _ (bh_len k).symm, List.set_replicate_self, eW, ← bh_succ] at h6
    exact ⟨h6, by rw [← eW]; exact hb.trans ((but_at6 _ _ _ _ _).below (Nat.le_of_lt hBl.lt) (fun x hx e => by omega))⟩
   have q' : (k : Int) < 2 * (n : Int) + 70 := by omega
   clear hBl hb
   go_wp2_with fail
   go_roundw
   case rel => exact ⟨k + 1, by go_num, by omega, (HNX.out _ rfl).1, (HNX.out _ rfl).2⟩
   case measure => simp [intOf]; omega
  ·obtain rfl : k = 2 * n + 70 := by omega
   have HS0 : Hid (LoS B wr B (os.take 0) [] (2 * n + 70) ∧ Below B w wr) := by
    refine ⟨⟨rfl, Nat.zero_le _, ?_, fun i h => by simp at h, Nat.le_refl _⟩, hb⟩
    have := hBl
    rw [Nat.sub_self, List.replicate_zero, List.append_nil] at this
    simpa using this
   have HBB : Hid (B ≤ wr.heap.size) := Nat.le_of_lt hBl.lt
   have q' : ¬ (2 * (n : Int) + 70) < 2 * (n : Int) + 70 := by omega
   clear hBl hb hk q
   go_wp2_with fail
   clear q'
   generalize wr = wo at *
   go_loopw [5] (fun iv wi => ∃ (r : Nat) (us : List Value), iv = .int .i64 (r : Int) ∧ r ≤ n ∧ LoS B wi B (os.take r) us (2 * n + 70) ∧ Below B w wi) (fun iv _ => n - (intOf iv).toNat)
   case atStart => exact ⟨0, [], rfl, Nat.zero_le _, HS0.out⟩
   case round =>
    clear HS0
    obtain ⟨r, us, rfl, hr, hS, hb⟩ := hrel
    have hnl := HN.out
    by_cases q : r < n
    ·obtain ⟨b, off, rfl, hbl, hc⟩ := (HR.out.below hb).2.resolve_left (fun e => by rw [hnl, e] at q; simp at q)
     obtain ⟨a, cp, ⟨c0, c1, c2, c3, c4, c5⟩, r1, ha⟩ := hc r (by omega)
     have hok := HR.out.1 _ (List.getElem_mem (h := (by omega : r < os.length)))
     have htl : (os.take r).length = r := by rw [List.length_take]; omega
     have hbw : B ≤ wr.heap.size := by have := hS.bl.lt; omega
     obtain ⟨o, ho⟩ : ∃ o, o = os[r]'(by omega) := ⟨_, rfl⟩
     rw [← ho] at c0 c1 c2 c3 c4 c5 r1 hok
     have htk : os.take (r + 1) = os.take r ++ [o] := by rw [ho, List.take_succ_eq_append_getElem]
     have HC : Hid (Calls Tryz.prog 34 #[.agg #[.int .i64 o.k, .string o.nm, .string o.ot, .int .i64 o.fr, .int .i64 o.tt, .slice a o.da.length cp]] wr fun e w2 => ∃ va vn vc, e = .returned (.agg #[.int .i64 o.k, .string o.nm, .string o.ot, .int .i64 o.fr, .int .i64 o.tt, .slice va vn vc]) ∧ (∃ v0 v1 v2 v3 v4 v5, w2.cell? ⟨B, r * 6, none⟩ = some v0 ∧ w2.cell? ⟨B, r * 6 + 1, none⟩ = some v1 ∧ w2.cell? ⟨B, r * 6 + 2, none⟩ = some v2 ∧ w2.cell? ⟨B, r * 6 + 3, none⟩ = some v3 ∧ w2.cell? ⟨B, r * 6 + 4, none⟩ = some v4 ∧ w2.cell? ⟨B, r * 6 + 5, none⟩ = some v5) ∧ (∀ i, w2.frozen? ⟨B, i, none⟩ = false) ∧
       ∀ W, W = (((((w2.setCell ⟨B, r * 6, none⟩ (.int .i64 o.k)).setCell ⟨B, r * 6 + 1, none⟩ (.string o.nm)).setCell ⟨B, r * 6 + 2, none⟩ (.string o.ot)).setCell ⟨B, r * 6 + 3, none⟩ (.int .i64 o.fr)).setCell ⟨B, r * 6 + 4, none⟩ (.int .i64 o.tt)).setCell ⟨B, r * 6 + 5, none⟩ (.slice va vn vc) → LoS B W B (os.take (r + 1)) (us ++ [.slice va vn vc]) (2 * n + 70) ∧ Below B w W) := by
      refine (CopyOp_any o a cp wr (r1.mono hbw) ha hok.da).mono ?_
      rintro e w2 ⟨v, rfl, ho2, hb2⟩
      have hS2 := hS.next hb2
      obtain ⟨va, vc, rfl⟩ := ho2.form
      refine ⟨va, _, vc, rfl, hS2.bl.cs6 r (by rw [List.length_append, htl, List.length_drop, bh_len]; omega), hS2.bl.frozen, fun W hW => ?_⟩
      have hW2 : W = at6 w2 B (r * 6) o (.slice va o.da.length vc) := hW
      have h7 := hS2.push (w' := W) (by rw [htl]; omega) o _ (ho2.mono hbw) (by rw [htl]; exact hW2)
      have bt := but_at6 w2 B (r * 6) o (.slice va o.da.length vc)
      rw [← hW2] at bt
      rw [← htk] at h7
      exact ⟨h7, (hb.trans (hb2.mono hbw)).trans (bt.below (Nat.le_of_lt hS2.bl.lt) (fun x hx e => by omega))⟩
     have hr1 : (r : Int) < (n : Int) := by omega
     have hr2 : (r : Int) < 2 * (n : Int) + 70 := by omega
     have HQ := hid q
     clear hc hS hb r1 ha hok htl hbw hnl q hr htk ho
     go_wp2_with fail
     refine HC.out.mono ?_
     rintro e w2 ⟨va, vn, vc, rfl, ⟨v0, v1, v2, v3, v4, v5, u0, u1, u2, u3, u4, u5⟩, uf, hfin⟩
     have HF := hid hfin
     clear hfin HC c0 c1 c2 c3 c4 c5
     go_wp2_with fail
     go_roundw
     case rel => exact ⟨r + 1, _, by go_num, HQ.out, HF.out _ rfl⟩
     case measure => have := HQ.out; simp [intOf]; omega
    ·have e : r = n := by omega
     have HD : Hid (PQ (.returned (.slice (some ⟨B, 0, none⟩) n (2 * n + 70))) wr) := by
      unfold Hid
      rw [HPQ.out]
      rw [e, hnl, List.take_length] at hS
      rw [HB.out] at hS hb
      exact ⟨w.heap.size, us, by rw [hnl, HB.out], hS, hb⟩
     have hr1 : ¬ (r : Int) < (n : Int) := by omega
     have hr2 : (n : Int) ≤ 2 * (n : Int) + 70 := by omega
     clear hS hb q hr e hnl
     go_wp2_with fail
     exact HD.out
end Go.Proofs.YtddddfankeepkaaGreatDoor
namespace Go.Proofs.YtddddfankeepkaaGreatDoor
open Go.RowKit
theorem RdO.isB {B : Nat} {w : World} {x : Option Addr} {os : List PO} (h : RdO B w x os) : ∀ o ∈ os, Pl.isB o.da := by
 intro o ho
 rcases h.2 with e | ⟨b, off, _, _, hc⟩
 ·rw [e] at ho; cases ho
 ·obtain ⟨t, ht, rfl⟩ := List.getElem_of_mem ho
  obtain ⟨a, c, _, h2, _⟩ := hc t ht
  exact h2.2.1
theorem LoS.op {B : Nat} {w : World} {F M : Nat} {os : List PO} {us : List Value} (h : LoS B w F os us M) (hB : ∀ o ∈ os, Pl.isB o.da) (t : Nat) (ht : t < os.length) : OpAt w.heap.size w F (t * 6) os[t] := by
 have hl := h.len
 have k := fun i hi => h.bl.at t (by simp; omega) i hi
 have e3 : (os ++ (bh M).drop os.length)[t]'(by simp; omega) = os[t] := List.getElem_append_left ht
 have e4 : (us ++ List.replicate (M - os.length) nilS)[t]'(by simp; omega) = us[t]'(by omega) := List.getElem_append_left (by omega)
 simp only [e3, e4] at k
 obtain ⟨a, c, e, _, hR, ha⟩ := (h.dat t ht).rd (hB _ (List.getElem_mem ht))
 rw [e] at k
 exact ⟨a, c, ⟨k 0 (by omega), k 1 (by omega), k 2 (by omega), k 3 (by omega), k 4 (by omega), k 5 (by omega)⟩, hR, ha⟩
theorem LoS.rd {B : Nat} {w : World} {F M : Nat} {os : List PO} {us : List Value} (h : LoS B w F os us M) (hok : ∀ o ∈ os, okO o) (hB : ∀ o ∈ os, Pl.isB o.da) : RdO w.heap.size w (some ⟨F, 0, none⟩) os :=
 ⟨hok, .inr ⟨F, 0, rfl, h.bl.lt, fun t ht => by rw [Nat.zero_add]; exact h.op hB t ht⟩⟩
theorem LoS.beh {B : Nat} {w : World} {F M : Nat} {os : List PO} {us : List Value} (h : LoS B w F os us M) (k : Nat) (h1 : os.length ≤ k) (h2 : k < M) : OpD w F (k * 6) (behO k) none 0 := by
 have hl := h.len
 have q := fun i hi => h.bl.at k (by simp [bh_len]; omega) i hi
 have e3 : (os ++ (bh M).drop os.length)[k]'(by simp [bh_len]; omega) = behO k := by
  rw [List.getElem_append_right h1, List.getElem_drop, bh_at]
  congr 1
  omega
 have e4 : (us ++ List.replicate (M - os.length) nilS)[k]'(by simp; omega) = nilS := by
  rw [List.getElem_append_right (by omega), List.getElem_replicate]
 simp only [e3, e4] at q
 exact ⟨q 0 (by omega), q 1 (by omega), q 2 (by omega), q 3 (by omega), q 4 (by omega), q 5 (by omega)⟩
set_option maxRecDepth 100000 in
set_option maxHeartbeats 4000000 in
theorem BackOps_any (B F : Nat) (us : List Value) (y : Option Addr) (yc : Nat) (os : List PO) (w : World) (hl : os.length ≤ 2097152) (hS : LoS B w F os us (2 * os.length + 70)) (hR : RdO w.heap.size w y os) :
  Calls Tryz.prog 26 #[.slice (some ⟨F, 0, none⟩) os.length (2 * os.length + 70), .slice y os.length yc] w fun e w' => e = .returned (.bool true) ∧ Below w.heap.size w w' := by
 obtain ⟨PQ, hPQ⟩ : ∃ PQ : Ending → World → Prop, PQ = fun e w' => e = .returned (.bool true) ∧ Below w.heap.size w w' := ⟨_, rfl⟩
 rw [← hPQ]
 have HPQ := hid hPQ
 have hR1 := hS.rd hR.1 hR.isB
 have HC : Hid (∀ wr, Below w.heap.size w wr → Calls Tryz.prog 47 #[.slice (some ⟨F, 0, none⟩) os.length (2 * os.length + 70), .slice y os.length yc] wr fun e w' => e = .returned (.bool true) ∧ PQ (.returned (.bool true)) w') := fun wr hb => by
  refine (SameOps_same _ y (2 * os.length + 70) yc os wr (by omega) ((hR1.below hb).mono hb.size) ((hR.below hb).mono hb.size)).mono ?_
  rintro e w' ⟨rfl, hb2⟩
  refine ⟨rfl, ?_⟩
  rw [HPQ.out]
  exact ⟨rfl, hb.trans (hb2.mono hb.size)⟩
 have HBe : Hid (∀ wr, Below w.heap.size w wr → ∀ k, os.length ≤ k → k < 2 * os.length + 70 → OpD wr F (k * 6) (behO k) none 0) := fun wr hb k h1 h2 => (hS.next hb).beh k h1 h2
 generalize os.length = n at *
 have hl2 : n ≤ 2097152 := hl
 have hn2 : (n : Int) ≤ 2 * (n : Int) + 70 := by omega
 clear hPQ hS hR hR1 hl
 go_enter Tryz.func26, Tryz.ntmps26
 go_wp2_with fail
 go_loopw [6] (fun kv wr => ∃ k : Nat, kv = .int .i64 (((n + k : Nat)) : Int) ∧ k ≤ n + 70 ∧ Below w.heap.size w wr) (fun kv _ => 2 * n + 70 - (intOf kv).toNat)
 case atStart => exact ⟨0, rfl, Nat.zero_le _, Below.refl _ _⟩
 case round =>
  obtain ⟨k, rfl, hk, hb⟩ := hrel
  have HB := hid hb
  by_cases q : k < n + 70
  ·obtain ⟨c0, c1, c2, c3, c4, c5⟩ := HBe.out wr hb (n + k) (by omega) (by omega)
   have HS : Hid (Calls Tryz.prog 46 #[.agg #[.int .i64 (behO (n + k)).k, .string (behO (n + k)).nm, .string (behO (n + k)).ot, .int .i64 (behO (n + k)).fr, .int .i64 (behO (n + k)).tt, .slice none (behO (n + k)).da.length 0], .agg #[.int .i64 (behO (n + k)).k, .string (behO (n + k)).nm, .string (behO (n + k)).ot, .int .i64 (behO (n + k)).fr, .int .i64 (behO (n + k)).tt, .slice none (behO (n + k)).da.length 0]] wr fun e w' => e = .returned (.bool true) ∧ Below wr.heap.size wr w') := SameOp_same (behO (n + k)) none none 0 0 wr ⟨rfl, by simp [behO, Pl.isB], .inl rfl⟩ ⟨rfl, by simp [behO, Pl.isB], .inl rfl⟩
   dsimp only [behO, List.length_nil] at HS c0 c1 c2 c3 c4 c5
   rw [show (((n + k : Nat)) : Int) = (n : Int) + (k : Int) by omega] at HS c0
   have q' : (n : Int) + (k : Int) < 2 * (n : Int) + 70 := by omega
   clear hb
   go_wp2_with fail
   refine HS.out.mono ?_
   rintro e w4 ⟨rfl, hb4⟩
   have HB4 := hid (HB.out.trans (hb4.mono HB.out.size))
   clear hb4 HS HB c0 c1 c2 c3 c4 c5
   go_wp2_with fail
   exact ⟨⟨k + 1, by rw [show ((n + (k + 1) : Nat) : Int) = (n : Int) + (k : Int) + 1 by omega], by omega, HB4.out⟩, by simp [intOf]; omega⟩
  ·obtain rfl : k = n + 70 := by omega
   have q' : ¬ (n : Int) + ((n : Int) + 70) < 2 * (n : Int) + 70 := by omega
   have HF := hid (HC.out wr hb)
   clear hb
   go_wp2_with fail
   go_at_call 47
   refine HF.out.mono ?_
   rintro e w4 ⟨rfl, h4⟩
   have H4 := hid h4
   clear h4 HF
   go_wp2_with fail
   exact H4.out
end Go.Proofs.YtddddfankeepkaaGreatDoor
