/-
  The document's disk: Read, Pending, Write.
-/
import Derived.Test.YteokekllbpkemaaRf0
namespace Go.Proofs.Yteokekllbpkemaa
open Go.RowKit

def seenK (img : List Int) (puts : List (Nat × List Int)) (x k : Nat) : List Int := (puts.take k).foldl (fun s q => if q.1 = x then q.2 else s) (blkZ img x)
theorem seenK_all (img : List Int) (puts : List (Nat × List Int)) (x : Nat) : seenK img puts x puts.length = seenZ img puts x := by unfold seenK; rw [List.take_length]; rfl

set_option maxRecDepth 100000 in
set_option maxHeartbeats 1000000 in
theorem refRead_any {X : Nat → Prop} {w : World} {r : Nat} {img : List Int} {puts : List (Nat × List Int)} {fu : Int} {off : Bool} {nb : Nat} (h : Rk X w r img puts fu off nb) (x : Int) (hl : puts.length ≤ 1073741824) :
    Calls Try.prog 30 #[.pointer (some ⟨r, 0, none⟩), .int .i64 x] w fun e w' => e = .returned (.tuple #[.string (strOfNums (readR img puts off nb x).2), .int .i64 (readR img puts off nb x).1]) ∧ w' = w := by
  obtain ⟨lv, pv, h⟩ := h
  obtain ⟨aL, cL, rfl, _⟩ := owns_slice h.rowL
  obtain ⟨aP, cP, rfl, _⟩ := owns_slice h.rowP
  have q0 := h.blk.cell 0
  have q1 := h.blk.cell 1
  have q2 := h.blk.cell 2
  simp only [List.getElem?_toArray, List.getElem?_cons_succ, List.getElem?_cons_zero] at q0 q1 q2
  have hhi := h.hi
  have hlo := h.lo
  cases off
  · by_cases hx : x < 0 ∨ (nb : Int) ≤ x
    · have hr : readR img puts false nb x = (22, []) := by simp only [readR, if_pos hx, Bool.false_eq_true, if_false]
      rw [hr]
      clear h hr
      go_enter Try.func30, Try.ntmps30
      by_cases h1 : x < 0
      · go_wp2
        go_ret2
        exact ⟨rfl, rfl⟩
      · have h2 : (nb : Int) ≤ x := by omega
        go_wp2
        go_ret2
        exact ⟨rfl, rfl⟩
    · obtain ⟨y, rfl⟩ : ∃ y : Nat, x = y := ⟨x.toNat, by omega⟩
      have hr : readR img puts false nb (y : Int) = (0, seenZ img puts y) := by simp only [readR, if_neg hx, Bool.false_eq_true, if_false, Int.toNat_natCast]
      rw [hr]
      have hy : y < nb := by omega
      have n1 : ¬ ((y : Int) < 0) := by omega
      have n2 : ¬ ((nb : Int) ≤ (y : Int)) := by omega
      have n3 : (y : Int) < (nb : Int) := by omega
      obtain ⟨gL, rfl, hgL, hcL⟩ := one_cell h.rowL (by omega)
      have r0 := hcL _ _ (lcs_get (img := img) hy)
      have HP : Hid (puts.length = 0 ∨ ∃ gP, aP = some ⟨gP, 0, none⟩ ∧ ∀ i q, puts[i]? = some q → w.cell? ⟨gP, i * 2, none⟩ = some (.int .i64 (q.1 : Int)) ∧ w.cell? ⟨gP, i * 2 + 1, none⟩ = some (.string (strOfNums q.2))) := by
        show _ ∨ _
        by_cases h0 : puts.length = 0
        · exact .inl h0
        · obtain ⟨g, e, _, hc⟩ := wide_cell h.rowP (by omega)
          exact .inr ⟨g, e, fun i q hi => ⟨hc _ _ (rcs_get puts i q hi).1, hc _ _ (rcs_get puts i q hi).2⟩⟩
      clear h hr hcL hx
      go_enter Try.func30, Try.ntmps30
      go_wp2_with fail
      go_loopw [6, 7] (fun s i wt => ∃ k : Nat, k ≤ puts.length ∧ i = .int .i64 (k : Int) ∧ s = .string (strOfNums (seenK img puts y k)) ∧ wt = w) (fun _ i _ => puts.length - (intOf i).toNat)
      case atStart => exact ⟨0, Nat.zero_le _, rfl, rfl, rfl⟩
      case round =>
        obtain ⟨k, hk, rfl, rfl, rfl⟩ := hrel
        by_cases hkn : k < puts.length
        · obtain ⟨gP, rfl, hcs⟩ := HP.out.resolve_left (by omega)
          have hd : puts[k]? = some puts[k] := List.getElem?_eq_getElem hkn
          obtain ⟨c0, c1⟩ := hcs k _ hd
          have hkn' : (k : Int) < (puts.length : Int) := by omega
          have hst : seenK img puts y (k + 1) = if puts[k].1 = y then puts[k].2 else seenK img puts y k := fold_snoc _ _ _ hkn
          generalize puts[k] = q at *
          clear hcs hd
          by_cases he : q.1 = y
          · rw [if_pos he] at hst
            have he' : (q.1 : Int) = (y : Int) := by omega
            have Hst := hid hst
            clear hst
            go_wp2_with fail
            go_roundw
            case rel => exact ⟨k + 1, by omega, by go_num, by rw [Hst.out], by first | rfl | trivial⟩
            case measure => simp [intOf]; omega
          · rw [if_neg he] at hst
            have he' : ¬ (q.1 : Int) = (y : Int) := by omega
            have Hst := hid hst
            clear hst
            go_wp2_with fail
            go_roundw
            case rel => exact ⟨k + 1, by omega, by go_num, by rw [Hst.out], by first | rfl | trivial⟩
            case measure => simp [intOf]; omega
        · obtain rfl : k = puts.length := by omega
          rw [seenK_all]
          generalize hS : strOfNums (seenZ img puts y) = S at *
          go_wp2
          go_ret2
          subst hS
          exact ⟨rfl, rfl⟩
  · have hr : readR img puts true nb x = (24, []) := by simp only [readR, if_true]
    rw [hr]
    clear h hr
    go_enter Try.func30, Try.ntmps30
    go_wp2
    go_ret2
    exact ⟨rfl, rfl⟩

theorem newsV1 (w : World) (v : Value) (t : TypeId) {S : Nat} (hS : w.heap.size = S) : ∀ j u, [v][j]? = some u → (w.alloc (.cells #[v] t)).cell? ((⟨S, 0, none⟩ : Addr).add j) = some u := by
  subst hS
  intro j u h
  match j, h with
  | 0, h => simp at h; subst h; simp [Addr.add]

def atsQ (puts : List (Nat × List Int)) : List Int := puts.map fun q => (q.1 : Int)
set_option maxRecDepth 100000 in
set_option maxHeartbeats 1000000 in
theorem refPending_any {X : Nat → Prop} {w : World} {r : Nat} {img : List Int} {puts : List (Nat × List Int)} {fu : Int} {off : Bool} {nb : Nat} (h : Rk X w r img puts fu off nb) (hl : puts.length ≤ 1073741824) :
    Calls Try.prog 16 #[.pointer (some ⟨r, 0, none⟩)] w fun e w' => ∃ a c, e = .returned (.slice a puts.length c) ∧ RdI w'.heap.size w' a puts.length (atsQ puts) ∧ Below w.heap.size w w' := by
  obtain ⟨lv, pv, h⟩ := h
  obtain ⟨aP, cP, rfl, _⟩ := owns_slice h.rowP
  have q1 := h.blk.cell 1
  simp only [List.getElem?_toArray, List.getElem?_cons_succ, List.getElem?_cons_zero] at q1
  have hrl := h.blk.lt
  have hla : (atsQ puts).length = puts.length := by simp [atsQ]
  have HP : Hid (puts.length = 0 ∨ ∃ gP, aP = some ⟨gP, 0, none⟩ ∧ gP < w.heap.size ∧ ∀ i q, puts[i]? = some q → w.cell? ⟨gP, i * 2, none⟩ = some (.int .i64 (q.1 : Int))) := by
    show _ ∨ _
    by_cases h0 : puts.length = 0
    · exact .inl h0
    · obtain ⟨g, e, hg, hc⟩ := wide_cell h.rowP (by omega)
      exact .inr ⟨g, e, hg, fun i q hi => hc _ _ (rcs_get puts i q hi).1⟩
  obtain ⟨i3, hi3, hz3, hs3, hb3⟩ := info_parts infoI
  clear h
  go_enter Try.func16, Try.ntmps16
  go_wp2_with fail
  go_loopw [3, 4] (fun v i wt => ∃ k : Nat, k ≤ puts.length ∧ i = .int .i64 (k : Int) ∧ OwI w.heap.size wt v k ((atsQ puts).take k) ∧ Below w.heap.size w wt) (fun _ i _ => puts.length - (intOf i).toNat)
  case atStart => exact ⟨0, Nat.zero_le _, rfl, OwI.nil _ _, Below.refl _ _⟩
  case round =>
    obtain ⟨k, hk, rfl, hO, hbt⟩ := hrel
    have r1 := (hbt.cell (p := ⟨r, 1, none⟩) hrl).trans q1
    by_cases hkn : k < puts.length
    · obtain ⟨gP, rfl, hgP, hcs⟩ := HP.out.resolve_left (by omega)
      have hd : puts[k]? = some puts[k] := List.getElem?_eq_getElem hkn
      have c0 := (hbt.cell (p := ⟨gP, k * 2, none⟩) hgP).trans (hcs k _ hd)
      have hkn' : (k : Int) < (puts.length : Int) := by omega
      have hst : (atsQ puts).take (k + 1) = (atsQ puts).take k ++ [(puts[k].1 : Int)] := by
        rw [List.take_succ_eq_append_getElem (by omega)]
        simp [atsQ]
      generalize puts[k] = q at *
      have HOa := hid (hO.alloc (.cells #[.int .i64 (q.1 : Int)] 3))
      have Hst := hid hst
      have Hbt := hid hbt
      have hws : w.heap.size ≤ wr.heap.size := hbt.size
      obtain ⟨aO, cO, rfl, _⟩ := owns_slice hO
      clear hcs hd hst hO hbt
      go_wp2_with (at_builtin; refine wpList_append_lies _ rfl _ _ 34 (by rfl) w.heap.size 3 i3 (.int .i64 0) 1 8 Try.underlying34 hi3 hz3 hs3 hb3 rfl (by decide) _ k (((atsQ puts).take k).map (Value.int .i64)) (by rfl) HOa.out ⟨wr.heap.size, 0, none⟩ 1 1 [.int .i64 (q.1 : Int)] (by rfl) (by rfl) (by exact newsV1 _ _ _ rfl) (by intro u hu; simp at hu; subst hu; rfl) (by decide) (by unfold maxLen; omega) (by omega) (by simp; omega) (wr.heap.size + 1) (by simp) ?_)
      intro g4 cap4 w6 ho4 hg4 hlie4 _
      have HO4 := hid ho4
      have HB4 := hid ((Hbt.out.alloc hws (.cells #[.int .i64 (q.1 : Int)] 3)).grown hg4 (by simp; omega) (fun x e => (World.ownsRow.lt HOa.out x e).1))
      clear ho4 hg4 hlie4 c0 r1
      go_wp2_with fail
      go_roundw
      case rel => exact ⟨k + 1, by omega, by go_num, by rw [Hst.out]; unfold OwI; rw [List.map_append, List.map_take]; exact HO4.out, HB4.out⟩
      case measure => simp [intOf]; omega
    · obtain rfl : k = puts.length := by omega
      obtain ⟨aO, cO, rfl, _⟩ := owns_slice hO
      have HO := hid hO
      have Hbt := hid hbt
      clear hO hbt
      go_wp2
      go_ret
      refine ⟨aO, cO, rfl, ?_, Hbt.out⟩
      have := HO.out.rdi
      rw [← hla, List.take_length] at this
      rw [← hla]
      exact this

theorem info98 : (Try.prog.info? 98).map (fun i => (i.zero, i.size, i.bytes)) = some (some (.agg #[.int .i64 0, .string ⟨#[]⟩]), 2, 24) := by kernel_rfl

end Go.Proofs.Yteokekllbpkemaa
