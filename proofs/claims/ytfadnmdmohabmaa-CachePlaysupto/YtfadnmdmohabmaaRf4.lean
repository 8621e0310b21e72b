/-
  The document's disk: all, laid, Flush.
-/
import Derived.Test.YtfadnmdmohabmaaRfb
namespace Go.Proofs.Ytfadnmdmohabmaa
open Go.RowKit

theorem info4 : (Try.prog.info? 4).map (fun i => (i.zero, i.size, i.bytes)) = some (some (.bool false), 1, 1) := by kernel_rfl
theorem info9 : (Try.prog.info? 9).map (fun i => (i.zero, i.size, i.bytes)) = some (some (.string ⟨#[]⟩), 1, 16) := by kernel_rfl
/-- bools that are read -/
def RdT (w : World) (a : Option Addr) (n : Nat) (bs : List Bool) : Prop := bs.length = n ∧ (n = 0 ∨ ∃ g, a = some ⟨g, 0, none⟩ ∧ g < w.heap.size ∧ ∀ i, i < n → w.cell? ⟨g, i, none⟩ = some (.bool (bs.getD i false)))

set_option maxRecDepth 100000 in
set_option maxHeartbeats 1000000 in
theorem all_any {X : Nat → Prop} {w : World} {r : Nat} {img : List Int} {puts : List (Nat × List Int)} {fu : Int} {off : Bool} {lv pv : Value} {nb : Nat} (h : RkW X w r img puts fu off lv pv nb) (hl : puts.length ≤ 1073741824) :
    Calls Try.prog 90 #[.pointer (some ⟨r, 0, none⟩)] w fun e w' => ∃ a c, e = .returned (.slice a puts.length c) ∧ RdT w' a puts.length (List.replicate puts.length true) ∧ Below w.heap.size w w' := by
  obtain ⟨aP, cP, rfl, _⟩ := owns_slice h.rowP
  have q1 := h.blk.cell 1
  simp only [List.getElem?_toArray, List.getElem?_cons_succ, List.getElem?_cons_zero] at q1
  have hrl := h.blk.lt
  obtain ⟨i4, hi4, hz4, hs4, hb4⟩ := info_parts info4
  clear h
  go_enter Try.func90, Try.ntmps90
  go_wp2_with fail
  go_loopw [3, 4] (fun v i wt => ∃ k : Nat, k ≤ puts.length ∧ i = .int .i64 (k : Int) ∧ wt.ownsRow w.heap.size 4 1 v k (List.replicate k (.bool true)) ∧ Below w.heap.size w wt) (fun _ i _ => puts.length - (intOf i).toNat)
  case atStart => exact ⟨0, Nat.zero_le _, rfl, World.ownsRow_nil _ _ _ _, Below.refl _ _⟩
  case round =>
    obtain ⟨k, hk, rfl, hO, hbt⟩ := hrel
    have r1 := (hbt.cell (p := ⟨r, 1, none⟩) hrl).trans q1
    by_cases hkn : k < puts.length
    · have hkn' : (k : Int) < (puts.length : Int) := by omega
      have HOa := hid (owns_below hO ((Below.refl _ _).alloc (Nat.le_refl _) (.cells #[.bool true] 4)))
      have Hbt := hid hbt
      have hws : w.heap.size ≤ wr.heap.size := hbt.size
      obtain ⟨aO, cO, rfl, _⟩ := owns_slice hO
      clear hO hbt
      go_wp2_with (at_builtin; refine wpList_append_lies _ rfl _ _ 135 (by rfl) w.heap.size 4 i4 (.bool false) 1 1 Try.underlying135 hi4 hz4 hs4 hb4 rfl (by decide) _ k (List.replicate k (.bool true)) (by rfl) HOa.out ⟨wr.heap.size, 0, none⟩ 1 1 [.bool true] (by rfl) (by rfl) (by exact newsV1 _ _ _ rfl) (by intro u hu; simp at hu; subst hu; rfl) (by decide) (by unfold maxLen; omega) (by omega) (by simp; omega) (wr.heap.size + 1) (by simp) ?_)
      intro g4 cap4 w6 ho4 hg4 hlie4 _
      have HO4 := hid ho4
      have HB4 := hid ((Hbt.out.alloc hws (.cells #[.bool true] 4)).grown hg4 (by simp; omega) (fun x e => (World.ownsRow.lt HOa.out x e).1))
      clear ho4 hg4 hlie4 r1
      go_wp2_with fail
      go_roundw
      case rel => exact ⟨k + 1, by omega, by go_num, by rw [List.replicate_succ']; exact HO4.out, HB4.out⟩
      case measure => simp [intOf]; omega
    · obtain rfl : k = puts.length := by omega
      obtain ⟨aO, cO, rfl, _⟩ := owns_slice hO
      have HO := hid hO
      have Hbt := hid hbt
      clear hO hbt
      go_wp2
      go_ret
      refine ⟨aO, cO, rfl, ⟨by simp, ?_⟩, Hbt.out⟩
      by_cases h0 : puts.length = 0
      · exact .inl h0
      · obtain ⟨g, e, hg, hc⟩ := one_cell HO.out (by omega)
        exact .inr ⟨g, e, hg, fun i hi => hc i _ (by simp [hi])⟩

/-- what lasts, with those of the first k pending writes over it that bs says -/
def layB (img : List Int) (puts : List (Nat × List Int)) (bs : List Bool) (k : Nat) : List Int := (List.range k).foldl (fun im i => if bs.getD i false then splice im ((puts.getD i (0, [])).1 * 512) (puts.getD i (0, [])).2 else im) img
theorem layB_succ (img : List Int) (puts : List (Nat × List Int)) (bs : List Bool) (k : Nat) : layB img puts bs (k + 1) = if bs.getD k false then splice (layB img puts bs k) ((puts.getD k (0, [])).1 * 512) (puts.getD k (0, [])).2 else layB img puts bs k := by
  unfold layB
  rw [List.range_succ, List.foldl_append]
  rfl
theorem length_layB {img : List Int} {puts : List (Nat × List Int)} {nb : Nat} (hlen : img.length = 512 * nb) (hd : ∀ q ∈ puts, q.1 < nb ∧ q.2.length = 512) (bs : List Bool) : ∀ k, k ≤ puts.length → (layB img puts bs k).length = 512 * nb := by
  intro k
  induction k with
  | zero => intro _; simpa [layB] using hlen
  | succ k ih =>
    intro hk
    rw [layB_succ]
    have h1 := ih (by omega)
    split
    · have hq := hd puts[k] (List.getElem_mem (by omega))
      have e : puts.getD k (0, []) = puts[k] := by simp [show k < puts.length by omega]
      rw [e, length_splice _ _ _ (by omega), h1]
    · exact h1

set_option maxRecDepth 100000 in
set_option maxHeartbeats 2000000 in
theorem laid_any {X : Nat → Prop} {w : World} {r : Nat} {img : List Int} {puts : List (Nat × List Int)} {fu : Int} {off : Bool} {lv pv : Value} {nb : Nat} (h : RkW X w r img puts fu off lv pv nb) (hl : puts.length ≤ 1073741824) (a : Option Addr) (c : Nat) (bs : List Bool) (hT : RdT w a puts.length bs) :
    Calls Try.prog 83 #[.pointer (some ⟨r, 0, none⟩), .slice a puts.length c] w fun e w' => ∃ g cp, e = .returned (.slice (some ⟨g, 0, none⟩) nb cp) ∧ w.heap.size ≤ g ∧ w'.ownsRow 0 9 1 (.slice (some ⟨g, 0, none⟩) nb cp) nb (lcs (layB img puts bs puts.length) nb) ∧ Below w.heap.size w w' := by
  obtain ⟨aL, cL, rfl, _⟩ := owns_slice h.rowL
  obtain ⟨aP, cP, rfl, _⟩ := owns_slice h.rowP
  have hlo := h.lo
  have hhi := h.hi
  obtain ⟨gL, rfl, hgL, hcL⟩ := one_cell h.rowL (by omega)
  have q0 := h.blk.cell 0
  have q1 := h.blk.cell 1
  simp only [List.getElem?_toArray, List.getElem?_cons_succ, List.getElem?_cons_zero] at q0 q1
  have hrl := h.blk.lt
  have hlcs : (lcs img nb).length = nb := by simp [lcs]
  have hlb := length_layB h.len h.dat bs
  have hdat := h.dat
  have HP : Hid (puts.length = 0 ∨ ∃ gP, aP = some ⟨gP, 0, none⟩ ∧ gP < w.heap.size ∧ ∀ i q, puts[i]? = some q → w.cell? ⟨gP, i * 2, none⟩ = some (.int .i64 (q.1 : Int)) ∧ w.cell? ⟨gP, i * 2 + 1, none⟩ = some (.string (strOfNums q.2))) := by
    show _ ∨ _
    by_cases h0 : puts.length = 0
    · exact .inl h0
    · obtain ⟨g, e, hg, hc⟩ := wide_cell h.rowP (by omega)
      exact .inr ⟨g, e, hg, fun i q hi => ⟨hc _ _ (rcs_get puts i q hi).1, hc _ _ (rcs_get puts i q hi).2⟩⟩
  have HT := hid hT
  obtain ⟨i9, hi9, hz9, hs9, hb9⟩ := info_parts info9
  have hsrc : ∀ j u, (lcs img nb)[j]? = some u → w.cell? ((⟨gL, 0, none⟩ : Addr).add j) = some u := fun j u hu => by
    have e : (⟨gL, 0, none⟩ : Addr).add j = ⟨gL, j, none⟩ := by unfold Addr.add; split <;> simp_all
    rw [e]
    exact hcL j u hu
  clear h hT hcL
  go_enter Try.func83, Try.ntmps83
  go_wp2_with (at_builtin; refine wpList_append_lies _ rfl _ _ 84 (by rfl) 0 9 i9 (.string ⟨#[]⟩) 1 16 Try.underlying84 hi9 hz9 hs9 hb9 rfl (by decide) _ 0 [] (by rfl) (World.ownsRow_nil _ _ _ _) ⟨gL, 0, none⟩ nb cL (lcs img nb) (by rfl) (by omega) hsrc (by intro u hu; unfold lcs at hu; obtain ⟨y, _, rfl⟩ := List.mem_map.1 hu; rfl) (by omega) (by unfold maxLen; omega) (by omega) (by omega) w.heap.size rfl ?_)
  intro g cp w1 ho hg hlie _
  have hg0 : g = w.heap.size := by
    rcases hlie with q | q
    · cases q
    · exact q
  have Hg0 := hid hg0
  clear hg0
  have HO := hid ho
  have HB := hid ((Below.refl w.heap.size w).grown hg (Nat.le_refl _) (fun x e => by cases e))
  clear ho hg hlie q0 hsrc
  go_wp2_with fail
  go_loopw [6] (fun i wt => ∃ k : Nat, k ≤ puts.length ∧ i = .int .i64 (k : Int) ∧ wt.ownsRow 0 9 1 (.slice (some ⟨g, 0, none⟩) nb cp) nb (lcs (layB img puts bs k) nb) ∧ Below w.heap.size w wt) (fun i _ => puts.length - (intOf i).toNat)
  case atStart => exact ⟨0, Nat.zero_le _, rfl, HO.out, HB.out⟩
  case round =>
    clear HO HB
    obtain ⟨k, hk, rfl, hO, hbt⟩ := hrel
    have r1 := (hbt.cell (p := ⟨r, 1, none⟩) hrl).trans q1
    by_cases hkn : k < puts.length
    · obtain ⟨gP, rfl, hgP, hcs⟩ := HP.out.resolve_left (by omega)
      obtain ⟨gT, rfl, hgT, hct⟩ := HT.out.2.resolve_left (by omega)
      have t0 := (hbt.cell (p := ⟨gT, k, none⟩) hgT).trans (hct k hkn)
      have hkn' : (k : Int) < (puts.length : Int) := by omega
      have hst := layB_succ img puts bs k
      by_cases hb : bs.getD k false = true
      · rw [hb] at t0
        rw [if_pos hb] at hst
        have eq : puts.getD k (0, []) = puts[k] := by simp [hkn]
        rw [eq] at hst
        have hd : puts[k]? = some puts[k] := List.getElem?_eq_getElem hkn
        have c0 := (hbt.cell (p := ⟨gP, k * 2, none⟩) hgP).trans (hcs k _ hd).1
        have c1 := (hbt.cell (p := ⟨gP, k * 2 + 1, none⟩) hgP).trans (hcs k _ hd).2
        obtain ⟨hx, hq⟩ := hdat puts[k] (List.getElem_mem hkn)
        have hlk := hlb k (by omega)
        have hset := lcs_splice hlk hq hx
        generalize puts[k] = q at *
        generalize strOfNums q.2 = S at *
        have hOs := (World.ownsRow.stored hO q.1 (.string S)).1
        rw [← hset, ← hst] at hOs
        have HOs := hid hOs
        obtain ⟨g', eg, hgl, hcg⟩ := one_cell hO (by omega)
        obtain rfl : g = g' := by cases eg; rfl
        have cg := hcg _ _ (lcs_get (img := layB img puts bs k) hx)
        obtain ⟨cur, hcur⟩ := row_kind hO (g := g) rfl
        have fg : wr.frozen? ⟨g, q.1, none⟩ = false := by simp [World.frozen?, hcur]
        have hx' : (q.1 : Int) < (nb : Int) := by omega
        have ngr : g ≠ r := by have := Hg0.out; omega
        have ngP : g ≠ gP := by have := Hg0.out; omega
        have Hbt := hid hbt
        generalize strOfNums (blkI (layB img puts bs k) q.1) = S0 at *
        clear hO hbt hcs hct hst hset hOs hcg hcur eg eq hd hb hlb hdat
        go_wp2_with fail
        go_region
        all_goals
          go_wp2_with fail
          go_roundw
        case rel => exact ⟨k + 1, by omega, by go_num, HOs.out, Hbt.out.drew.setCell (p := ⟨g, q.1, none⟩) (by have := Hg0.out; show w.heap.size ≤ g; omega) _⟩
        case measure => simp [intOf]; omega
      · have hb' : bs.getD k false = false := by simpa using hb
        rw [hb'] at t0
        rw [if_neg hb] at hst
        have HO := hid hO
        have Hbt := hid hbt
        have Hst := hid hst
        clear hO hbt hst hcs hct hb hb'
        go_wp2_with fail
        go_roundw
        case rel => exact ⟨k + 1, by omega, by go_num, by rw [Hst.out]; exact HO.out, Hbt.out⟩
        case measure => simp [intOf]; omega
    · obtain rfl : k = puts.length := by omega
      have HO := hid hO
      have Hbt := hid hbt
      clear hO hbt
      go_wp2
      go_ret
      exact ⟨g, cp, rfl, by have := Hg0.out; omega, HO.out, Hbt.out⟩

end Go.Proofs.Ytfadnmdmohabmaa
