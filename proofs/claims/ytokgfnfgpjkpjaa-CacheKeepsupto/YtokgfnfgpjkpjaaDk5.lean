/-
  Package disk: lay; Pending.
-/
import Derived.Test.YtokgfnfgpjkpjaaDk4
import Derived.Laws.CopyRow
import Derived.Laws.Tables
namespace Go.Proofs.Ytokgfnfgpjkpjaa
open Go.RowKit

theorem take_splice {α : Type} (L cs : List α) {o n : Nat} (h : o + cs.length ≤ n) (hn : n ≤ L.length) : (L.take o ++ cs ++ L.drop (o + cs.length)).take n = splice (L.take n) o cs := by
  have hA : (L.take n).length = n := by simp; omega
  have e1 : L.take o = (L.take n).take o := by rw [List.take_take, Nat.min_eq_left (by omega)]
  have e2 : L.drop (o + cs.length) = (L.take n).drop (o + cs.length) ++ L.drop n := by
    conv => lhs; rw [← List.take_append_drop n L]
    rw [List.drop_append_of_le_length (by omega)]
  rw [e1, e2]
  have e3 : (L.take n).take o ++ cs ++ ((L.take n).drop (o + cs.length) ++ L.drop n) = splice (L.take n) o cs ++ L.drop n := by simp [splice]
  have hl := length_splice (L.take n) o cs (by omega)
  rw [e3, List.take_append_of_le_length (by omega), List.take_of_length_le (by omega)]
/-- copy over bytes of one's own, from somewhere else -/
theorem copy_own {ty : TypeId} {w : World} {G n cap o dLen dCap : Nat} {ad : Addr} {m sCap : Nat} {zs cs : List Int} (h : Own w G n cap zs) (hl : cs.length = m) (hm : m ≤ dLen) (ho : o + m ≤ n) (hsrc : ∀ j v, (cs.map (Value.int .u8))[j]? = some v → w.cell? (ad.add j) = some v) :
    ∃ w', (Builtin.copy_ #[29, 29] ty #[.slice (some ⟨G, o, none⟩) dLen dCap, .slice (some ad) m sCap]).run Try.prog w = .ok (goInt m) w' ∧ Own w' G n cap (splice zs o cs) ∧ But (fun x => x = G) w w' := by
  have hzl := h.len
  rcases h with ⟨h0, h⟩
  rcases h with ⟨h1, _⟩ | ⟨g', cap', cur, h1, h2, h3, h4, h5, h6, h7⟩
  · cases h1
  · cases h1
    have hr := run_copy_row (P := Try.prog) w 29 29 ty 5 G o dLen dCap ad m sCap cur 5 (cs.map (Value.int .u8)) Try.underlying29 size5 h3 (by simp only [List.length_map, hl]; exact (Nat.min_eq_left hm).symm) hsrc (by simp only [List.length_map]; omega) (u8_one _)
    simp only [List.length_map, hl] at hr
    refine ⟨_, hr, ⟨?_, .inr ⟨G, cap, _, rfl, Nat.le_refl _, setRow_heap w G cur _ 5 (0, 0) h3, h4, h5, ?_, ?_⟩⟩, ⟨rfl, rfl, rfl, by simp [World.setRow], fun k _ hx => setRow_other w G k _ (by intro e; exact hx e)⟩⟩
    · rw [List.length_map, length_splice _ _ _ (by omega)]
      omega
    · have : cur.toList.length = cap := by simpa using h6
      simp
      omega
    · have hc : cur.toList.length = cap := by simpa using h6
      simp only [Nat.mul_one] at h7 ⊢
      have e := take_splice cur.toList (cs.map (Value.int .u8)) (o := o) (n := n) (by simp; omega) (by omega)
      rw [List.length_map, hl, h7] at e
      rw [← splice_map]
      simpa using e

set_option maxRecDepth 100000 in
theorem lay_any {w : World} {G n cap : Nat} {zs : List Int} (h : Own w G n cap zs) (x : Nat) (ad : Addr) (sc : Nat) (cs : List Int) (hR : Rd w.heap.size w (some ad) 512 cs) (hx : x * 512 + 512 ≤ n) (hn : n ≤ 268435456) :
    Calls Try.prog 47 #[.slice (some ⟨G, 0, none⟩) n cap, .agg #[.int .i64 (x : Int), .slice (some ad) 512 sc]] w fun e w' => e = .returned (.tuple #[]) ∧ Own w' G n cap (splice zs (x * 512) cs) ∧ But (fun x => x = G) w w' := by
  have hcap := h.cap
  have hG := h.lt
  obtain ⟨wa, hwa⟩ : ∃ wa, wa = w.alloc (.cells #[.int .i64 (x : Int), .slice (some ad) 512 sc] 78) := ⟨_, rfl⟩
  have hb : Below w.heap.size w wa := by rw [hwa]; exact (Below.refl _ _).alloc (Nat.le_refl _) _
  have q0 : wa.cell? ⟨w.heap.size, 0, none⟩ = some (.int .i64 (x : Int)) := by rw [hwa]; exact cell_new rfl 0 _ rfl
  have q1 : wa.cell? ⟨w.heap.size, 1, none⟩ = some (.slice (some ad) 512 sc) := by rw [hwa]; exact cell_new rfl 1 _ rfl
  obtain ⟨ad', e, hsrc⟩ := (hR.below hb).src (by omega)
  cases e
  obtain ⟨w3, hrun, hO, hB⟩ := copy_own (ty := 3) (w := wa.drew) (o := x * 512) (dLen := n - x * 512) (dCap := cap - x * 512) (sCap := sc) (h.keep (w' := wa.drew) (hb.block G hG)) hR.1 (by omega) (by omega) hsrc
  have HO := hid hO
  have HB := hid (But.of_below hb |>.comp (But.refl (fun _ => False) wa).drew (fun _ _ h => h.elim) |>.comp hB (fun _ _ h => h))
  clear hsrc hR hO hB hb
  go_enter Try.func47, Try.ntmps47
  go_wp2_with fail
  rw [← hwa]
  clear hwa
  go_region
  go_end0
  exact ⟨rfl, HO.out, HB.out⟩

/-- the numbers of the pending writes' blocks -/
def atsZ (ds : List Pw) : List Int := ds.map fun d => (d.at_ : Int)
theorem fill_step {L : List Int} {k n : Nat} (h : k < L.length) (hn : L.length = n) : (L.take k ++ List.replicate (n - k) 0).set k (L.getD k 0) = L.take (k + 1) ++ List.replicate (n - (k + 1)) 0 := by
  have hk : (L.take k).length = k := by simp; omega
  have e : List.replicate (n - k) (0 : Int) = 0 :: List.replicate (n - (k + 1)) 0 := by
    rw [← List.replicate_succ]
    congr 1
    omega
  rw [List.set_append_right _ _ (by omega), hk, Nat.sub_self, e, List.set_cons_zero, take_snoc h, List.append_assoc]
  simp [List.getD_eq_getElem?_getD]

set_option maxRecDepth 100000 in
set_option maxHeartbeats 1000000 in
theorem Pending_any {X : Nat → Prop} {w : World} {p : Nat} {img : List Int} {puts : List (Nat × List Int)} {fu : Int} {off : Bool} {nb : Nat} (h : Dk X w p img puts fu off nb) (hl : puts.length ≤ 1073741824) :
    Calls Try.prog 20 #[.pointer (some ⟨p, 0, none⟩)] w fun e w' => ∃ g, e = .returned (.tuple #[.slice (some ⟨g, 0, none⟩) puts.length puts.length, .int .i64 0]) ∧ w.heap.size ≤ g ∧ Blk .i64 3 w' g (puts.map fun q => (q.1 : Int)) ∧ Below w.heap.size w w' := by
  obtain ⟨ds, gL, cL, pv, mp, rfl, h⟩ := h
  have hats : (ds.map Pw.put).map (fun q => (q.1 : Int)) = atsZ ds := by simp [atsZ, Pw.put]
  rw [hats]
  simp only [List.length_map] at hl ⊢
  obtain ⟨aP, cP, rfl, _⟩ := owns_slice h.row
  have q1 := h.blk.cell 1
  simp only [List.getElem?_toArray, List.getElem?_cons_succ, List.getElem?_cons_zero] at q1
  have hla : (atsZ ds).length = ds.length := by simp [atsZ]
  have HW : Hid (ds.length = 0 ∨ ∃ gP, aP = some ⟨gP, 0, none⟩ ∧ gP < w.heap.size ∧ ∀ i d, ds[i]? = some d → w.cell? ⟨gP, i * 2, none⟩ = some (.int .i64 (d.at_ : Int)) ∧ w.cell? ⟨gP, i * 2 + 1, none⟩ = some (.slice (some ⟨d.g, 0, none⟩) 512 d.c)) := by
    show _ ∨ _
    by_cases h0 : ds.length = 0
    · exact .inl h0
    · obtain ⟨g, e, hg, hc⟩ := wide_cell h.row (by omega)
      exact .inr ⟨g, e, hg, fun i d hi => ⟨hc _ _ (pcs_get ds i d hi).1, hc _ _ (pcs_get ds i d hi).2⟩⟩
  have hplt := h.blk.lt
  have hmk := make_i64 ds.length (by omega)
  clear h
  have hB0 : Hid (Blk .i64 3 (w.alloc (.cells ((zeros ds.length).map (Value.int .i64)).toArray 3)) w.heap.size (zeros ds.length)) := Blk.new w _
  have hb0 : Hid (Below w.heap.size w (w.alloc (.cells ((zeros ds.length).map (Value.int .i64)).toArray 3))) := (Below.refl _ _).alloc (Nat.le_refl _) _
  have q1' : (w.alloc (.cells ((zeros ds.length).map (Value.int .i64)).toArray 3)).cell? ⟨p, 1, none⟩ = some (.slice aP ds.length cP) := (World.cell?_alloc_past _ _ _ hplt).trans q1
  go_enter Try.func20, Try.ntmps20
  go_wp2_with fail
  refine (ask_none w).mono ?_
  rintro e w1 ⟨rfl, rfl⟩
  go_wp2_with fail
  generalize hwm : w1.alloc (.cells ((zeros ds.length).map (Value.int .i64)).toArray 3) = wm at *
  clear hwm hmk q1 q1'
  go_loopw [24] (fun i wt => ∃ k : Nat, k ≤ ds.length ∧ i = .int .i64 (k : Int) ∧ Blk .i64 3 wt w1.heap.size ((atsZ ds).take k ++ List.replicate (ds.length - k) 0) ∧ Below w1.heap.size w1 wt) (fun i _ => ds.length - (intOf i).toNat)
  case atStart => exact ⟨0, Nat.zero_le _, rfl, by simpa [zeros] using hB0.out, hb0.out⟩
  case round =>
    clear hB0 hb0
    obtain ⟨k, hk, rfl, hB, hbt⟩ := hrel
    by_cases hkn : k < ds.length
    · obtain ⟨gP, rfl, hgP, hcs⟩ := HW.out.resolve_left (by omega)
      have hd := List.getElem?_eq_getElem hkn
      obtain ⟨c0, c1⟩ := hcs k _ hd
      have r0 := (hbt.cell (p := ⟨gP, k * 2, none⟩) hgP).trans c0
      have r1 := (hbt.cell (p := ⟨gP, k * 2 + 1, none⟩) hgP).trans c1
      have hgD : (atsZ ds).getD k 0 = (ds[k].at_ : Int) := by simp [atsZ, hkn]
      have hBa := hB.alloc (.cells #[.int .i64 (ds[k].at_ : Int), .slice (some ⟨ds[k].g, 0, none⟩) 512 ds[k].c] 78)
      have hlB : k < ((atsZ ds).take k ++ List.replicate (ds.length - k) 0).length := by simp; omega
      have cB := hBa.cell k hlB
      have fB := hBa.frozen k
      have hkn' : (k : Int) < (ds.length : Int) := by omega
      have HBs := hid (hBa.set k (ds[k].at_ : Int))
      have Hba := hid ((hbt.alloc hbt.size (.cells #[.int .i64 (ds[k].at_ : Int), .slice (some ⟨ds[k].g, 0, none⟩) 512 ds[k].c] 78)))
      have e0 : (wr.alloc (.cells #[.int .i64 (ds[k].at_ : Int), .slice (some ⟨ds[k].g, 0, none⟩) 512 ds[k].c] 78)).cell? ⟨wr.heap.size, 0, none⟩ = some (.int .i64 (ds[k].at_ : Int)) := cell_new rfl 0 _ rfl
      clear hcs c0 c1 hbt hB hBa hd
      go_wp2_with fail
      go_roundw
      case rel =>
        refine ⟨k + 1, by omega, by go_num, ?_, ?_⟩
        · have := HBs.out
          have e := fill_step (L := atsZ ds) (k := k) (by omega) hla
          rw [hgD] at e
          rw [e] at this
          exact this
        · exact Hba.out.setCell (p := ⟨w1.heap.size, k, none⟩) (Nat.le_refl _) _
      case measure => simp [intOf]; omega
    · obtain rfl : k = ds.length := by omega
      have HB := hid hB
      have Hbt := hid hbt
      clear hB hbt
      go_wp2
      go_ret2
      refine ⟨w1.heap.size, rfl, Nat.le_refl _, ?_, Hbt.out⟩
      have := HB.out
      rw [Nat.sub_self, List.replicate_zero, List.append_nil, ← hla, List.take_length] at this
      exact this

end Go.Proofs.Ytokgfnfgpjkpjaa
