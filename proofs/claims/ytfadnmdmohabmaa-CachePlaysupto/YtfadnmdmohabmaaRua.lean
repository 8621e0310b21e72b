/-
  The document's cache: what is held of its uses.
-/
import Derived.Test.YtfadnmdmohabmaaCfa
import Derived.Test.YtfadnmdmohabmaaRfa
namespace Go.Proofs.Ytfadnmdmohabmaa
open Go.RowKit

/-- the cells of uses -/
def ucs (us : Us) : List Value := us.flatMap fun q => [.int .i64 q.1, .string (strOfNums q.2)]
theorem ucs_snoc (us : Us) (q : Int × List Int) : ucs (us ++ [q]) = ucs us ++ [.int .i64 q.1, .string (strOfNums q.2)] := by simp [ucs]
theorem ucs_get (us : Us) : ∀ (i : Nat) q, us[i]? = some q → (ucs us)[i * 2]? = some (.int .i64 q.1) ∧ (ucs us)[i * 2 + 1]? = some (.string (strOfNums q.2)) := by
  induction us with
  | nil => intro i d h; simp at h
  | cons e r ih =>
    intro i d h
    match i with
    | 0 => simp at h; subst h; exact ⟨rfl, rfl⟩
    | i + 1 =>
      have := ih i d (by simpa using h)
      have e1 : (i + 1) * 2 = i * 2 + 2 := by omega
      rw [e1]
      exact this
theorem info128 : (Try.prog.info? 128).map (fun i => (i.zero, i.size, i.bytes)) = some (some (.agg #[.int .i64 0, .string ⟨#[]⟩]), 2, 24) := by kernel_rfl
/-- the document's cache in block x -/
def Rcb (w : World) (x r room : Nat) (uv : Value) (hi mi : Int) : Prop := w.heap[x]? = some (.cells #[.pointer (some ⟨r, 0, none⟩), .int .i64 (room : Int), uv, .int .i64 hi, .int .i64 mi] 91 (0, 0))
theorem Rcb.lt {w : World} {x r room : Nat} {uv : Value} {hi mi : Int} (h : Rcb w x r room uv hi mi) : x < w.heap.size := (Array.getElem?_eq_some_iff.1 h).1
theorem Rcb.cell {w : World} {x r room : Nat} {uv : Value} {hi mi : Int} (h : Rcb w x r room uv hi mi) (t : Nat) : w.cell? ⟨x, t, none⟩ = #[Value.pointer (some ⟨r, 0, none⟩), .int .i64 (room : Int), uv, .int .i64 hi, .int .i64 mi][t]? := by
  unfold Rcb at h
  simp [World.cell?, h]
theorem Rcb.frozen {w : World} {x r room : Nat} {uv : Value} {hi mi : Int} (h : Rcb w x r room uv hi mi) (t : Nat) : w.frozen? ⟨x, t, none⟩ = false := by
  unfold Rcb at h
  simp [World.frozen?, h]
/-- uses in a row of one's own, from block B on -/
def OwU (B : Nat) (w : World) (v : Value) (us : Us) : Prop := w.ownsRow B 128 2 v us.length (ucs us)
theorem OwU.nil (B : Nat) (w : World) : OwU B w (.slice none 0 0) [] := ⟨rfl, .inl ⟨rfl, rfl⟩⟩
theorem OwU.below {B : Nat} {w w' : World} {v : Value} {us : Us} (h : OwU B w v us) (hb : Below w.heap.size w w') : OwU B w' v us := owns_below h hb
theorem OwU.cells {B : Nat} {w : World} {a : Option Addr} {c : Nat} {us : Us} (h : OwU B w (.slice a us.length c) us) (hn : 0 < us.length) : ∃ g, a = some ⟨g, 0, none⟩ ∧ B ≤ g ∧ g < w.heap.size ∧ ∀ i q, us[i]? = some q → w.cell? ⟨g, i * 2, none⟩ = some (.int .i64 q.1) ∧ w.cell? ⟨g, i * 2 + 1, none⟩ = some (.string (strOfNums q.2)) := by
  rcases h.2 with ⟨_, h2⟩ | ⟨g, cap, cur, h1, hB, _⟩
  · omega
  · simp at h1
    obtain ⟨rfl, rfl⟩ := h1
    refine ⟨g, rfl, hB, (World.ownsRow.lt h g rfl).2, fun i q hi => ?_⟩
    obtain ⟨e1, e2⟩ := ucs_get us i q hi
    have hl : (ucs us).length = us.length * 2 := h.1
    have hil : i < us.length := (List.getElem?_eq_some_iff.1 hi).1
    exact ⟨by rw [World.ownsRow.cellAt h (i * 2) (by omega)]; exact e1, by rw [World.ownsRow.cellAt h (i * 2 + 1) (by omega)]; exact e2⟩

end Go.Proofs.Ytfadnmdmohabmaa

/-
  The document's cache: held.
-/
namespace Go.Proofs.Ytfadnmdmohabmaa
open Go.RowKit

theorem any_take {b : Us} {j : Nat} {y : Int} {p : Int × List Int} (h : b[j]? = some p) : (b.take (j + 1)).any (fun p => p.1 == y) = ((b.take j).any (fun p => p.1 == y) || (p.1 == y)) := by
  obtain ⟨hj, rfl⟩ := List.getElem?_eq_some_iff.1 h
  rw [List.take_succ_eq_append_getElem hj, List.any_append]
  simp
theorem OwU.base {B S : Nat} {w : World} {v : Value} {us : Us} (h : OwU S w v us) (hs : B ≤ S) : OwU B w v us := by
  obtain ⟨h1, h2⟩ := h
  refine ⟨h1, ?_⟩
  rcases h2 with h2 | ⟨g, cap, cur, e1, e2, r⟩
  · exact .inl h2
  · exact .inr ⟨g, cap, cur, e1, Nat.le_trans hs e2, r⟩
set_option maxRecDepth 100000 in
set_option maxHeartbeats 8000000 in
theorem refHeld_any {w : World} {x r room : Nat} {a : Option Addr} {c : Nat} {us : Us} {hi mi : Int} (hb : Rcb w x r room (.slice a us.length c) hi mi) (hu : OwU 0 w (.slice a us.length c) us) (hn : us.length ≤ 16777216) (hr : room ≤ 4096) :
    Calls Try.prog 74 #[.pointer (some ⟨x, 0, none⟩)] w fun e w' => ∃ al cp, e = .returned (.slice al (heldU room us).length cp) ∧ OwU w.heap.size w' (.slice al (heldU room us).length cp) (heldU room us) ∧ Below w.heap.size w w' := by
  have x1 : w.cell? ⟨x, 1, none⟩ = some (.int .i64 (room : Int)) := hb.cell 1
  have x2 : w.cell? ⟨x, 2, none⟩ = some (.slice a us.length c) := hb.cell 2
  have hxl := hb.lt
  obtain ⟨i8, hi8, hz8, hs8, hb8⟩ := info_parts info128
  have HU : Hid (us.length = 0 ∨ ∃ g, a = some ⟨g, 0, none⟩ ∧ g < w.heap.size ∧ ∀ i q, us[i]? = some q → w.cell? ⟨g, i * 2, none⟩ = some (.int .i64 q.1) ∧ w.cell? ⟨g, i * 2 + 1, none⟩ = some (.string (strOfNums q.2))) := by
    by_cases h0 : us.length = 0
    · exact .inl h0
    · obtain ⟨g, e, _, hg, hc⟩ := hu.cells (by omega)
      exact .inr ⟨g, e, hg, hc⟩
  clear hb hu
  obtain ⟨n, hnn⟩ : ∃ n, n = us.length := ⟨_, rfl⟩
  rw [← hnn] at x2 hn
  have Hn := hid hnn
  rw [← hnn] at HU
  clear hnn
  go_enter Try.func74, Try.ntmps74
  go_wp2_with fail
  go_loopw [3, 4] (fun bv iv wt => ∃ (t : Nat) (b : Us), t ≤ n ∧ iv = .int .i64 ((n : Int) - 1 - (t : Int)) ∧ b = (us.reverse.take t).foldl stepB [] ∧ b.length ≤ room ∧ OwU w.heap.size wt bv b ∧ Below w.heap.size w wt) (fun _ iv _ => (intOf iv + 1).toNat)
  case atStart => exact ⟨0, [], Nat.zero_le _, by simp, by simp, Nat.zero_le _, OwU.nil _ _, Below.refl _ _⟩
  case round =>
    obtain ⟨t, b, ht, rfl, hbt, hbl, hO, hbe⟩ := hrel
    obtain ⟨aB, cB, rfl, _⟩ := owns_slice hO
    have y1 := (hbe.cell (p := ⟨x, 1, none⟩) hxl).trans x1
    have y2 := (hbe.cell (p := ⟨x, 2, none⟩) hxl).trans x2
    by_cases htn : t < n ∧ b.length < room
    · obtain ⟨ht1, hb1⟩ := htn
      obtain ⟨g, rfl, hg, hcs⟩ := HU.out.resolve_left (by omega)
      obtain ⟨k, hk⟩ : ∃ k : Nat, k = n - 1 - t := ⟨_, rfl⟩
      have hkI : (n : Int) - 1 - (t : Int) = (k : Int) := by omega
      have hkn : k < us.length := by have := Hn.out; omega
      have hq : us[k]? = some us[k] := List.getElem?_eq_getElem hkn
      have hrv : us.reverse[t]? = some us[k] := by
        rw [List.getElem?_reverse (by have := Hn.out; omega), ← hq, hk, Hn.out]
      have HST : Hid ((us.reverse.take (t + 1)).foldl stepB [] = stepB b us[k]) := by
        obtain ⟨hl, he⟩ := List.getElem?_eq_some_iff.1 hrv
        show _ = _
        rw [List.take_succ_eq_append_getElem hl, List.foldl_append, ← hbt, he]
        rfl
      obtain ⟨c0, c1⟩ := hcs k _ hq
      have HC := hid (And.intro c0 c1)
      rw [hkI]
      have hkn' : (k : Int) < (n : Int) := by omega
      have hb1' : (b.length : Int) < (room : Int) := by omega
      have HO := hid hO
      have Hbe := hid hbe
      have hbS := stepB_len b us[k]
      have HS : Hid (stepB b us[k] = if b.any (fun p => p.1 == us[k].1) then b else b ++ [us[k]]) := rfl
      generalize us[k] = q at *
      generalize stepB b q = b2 at *
      obtain ⟨nB, hnB⟩ : ∃ nB, nB = b.length := ⟨_, rfl⟩
      obtain ⟨W0, hW0⟩ : ∃ W0, W0 = wr := ⟨wr, rfl⟩
      subst hW0
      have HE : Hid ((n : Int) - 1 - ((t + 1 : Nat) : Int) = (k : Int) - 1) := by show _ = _; omega
      clear hcs hq hrv hbt hO hbe hkI c0 c1 hk hnB
      go_wp2_with fail
      go_loopw [5, 6] (fun av jv wt => ∃ j : Nat, j ≤ b.length ∧ av = .bool ((b.take j).any (fun p => p.1 == q.1)) ∧ jv = .int .i64 (j : Int) ∧ OwU w.heap.size wt (.slice aB b.length cB) b ∧ Below w.heap.size w wt) (fun _ jv _ => b.length - (intOf jv).toNat)
      case atStart => exact ⟨0, Nat.zero_le _, by simp, rfl, HO.out, Hbe.out⟩
      case round =>
        clear y1 y2 HO Hbe
        obtain ⟨j, hj, rfl, rfl, hO, hbe⟩ := hrel
        have y1 := (hbe.cell (p := ⟨x, 1, none⟩) hxl).trans x1
        have y2 := (hbe.cell (p := ⟨x, 2, none⟩) hxl).trans x2
        have c0 := (hbe.cell (p := ⟨g, k * 2, none⟩) hg).trans HC.out.1
        have c1 := (hbe.cell (p := ⟨g, k * 2 + 1, none⟩) hg).trans HC.out.2
        by_cases hjb : j < b.length
        · obtain ⟨gB, rfl, _, _, hcB⟩ := OwU.cells hO (by omega)
          have hqj : b[j]? = some b[j] := List.getElem?_eq_getElem hjb
          have d0 := (hcB j _ hqj).1
          have HA := hid (any_take (y := q.1) hqj)
          have hjb' : (j : Int) < (b.length : Int) := by omega
          have HO := hid hO
          have Hbe := hid hbe
          generalize b[j] = pj at *
          clear hcB hqj hO hbe c1
          cases hold : (b.take j).any (fun p => p.1 == q.1)
          · rw [hold] at HA
            go_wp2_with fail
            go_region
            all_goals go_wp2_with fail
            all_goals
              go_roundw
              case rel => exact ⟨j + 1, by omega, by rw [HA.out]; simp, by go_num, HO.out.below ((Below.refl _ _).drew), Hbe.out.drew⟩
              case measure => simp [intOf]; omega
          · rw [hold] at HA
            go_wp2_with fail
            go_region
            all_goals go_wp2_with fail
            all_goals
              go_roundw
              case rel => exact ⟨j + 1, by omega, by rw [HA.out]; simp, by go_num, HO.out.below ((Below.refl _ _).drew), Hbe.out.drew⟩
              case measure => simp [intOf]; omega
        · obtain rfl : j = b.length := by omega
          have HO := hid hO
          have Hbe := hid hbe
          rw [List.take_length] at *
          cases hold : b.any (fun p => p.1 == q.1)
          · have hs2 : b2 = b ++ [q] := by have := HS.out; rw [hold] at this; simpa using this
            have HS2 := hid hs2
            clear hs2
            have HOa := hid (hO.below ((Below.refl _ _).alloc (Nat.le_refl _) (.cells #[.int .i64 q.1, .string (strOfNums q.2)] 128)))
            have hws : w.heap.size ≤ wr.heap.size := hbe.size
            clear hO hbe HS
            generalize hSS : strOfNums q.2 = S at *
            have HSS := hid hSS
            clear hSS
            go_wp2_with (at_builtin; refine wpList_append_lies _ rfl _ _ 89 (by rfl) w.heap.size 128 i8 (.agg #[.int .i64 0, .string ⟨#[]⟩]) 2 24 Try.underlying89 hi8 hz8 hs8 hb8 rfl (by decide) _ b.length (ucs b) (by rfl) HOa.out ⟨wr.heap.size, 0, none⟩ 1 1 [.int .i64 q.1, .string S] (by rfl) (by rfl) (by exact news2 wr _ _ _) (by intro u hu; simp at hu; rcases hu with rfl | rfl <;> rfl) (by decide) (by unfold maxLen; omega) (by omega) (by simp; omega) (wr.heap.size + 1) (by simp) ?_)
            intro g4 cap4 w6 ho4 hg4 hlie4 _
            have HO4 : Hid (OwU w.heap.size w6 (.slice (some ⟨g4, 0, none⟩) (b.length + 1) cap4) b2) := by
              show w6.ownsRow w.heap.size 128 2 _ b2.length (ucs b2)
              rw [HS2.out, ucs_snoc, HSS.out, List.length_append]
              exact ho4
            have HB4 := hid ((Hbe.out.alloc hws (.cells #[.int .i64 q.1, .string S] 128)).grown hg4 (by simp; omega) (fun x e => (World.ownsRow.lt HOa.out x e).1))
            clear ho4 hg4 hlie4 y1 y2 c0 c1
            go_wp2_with fail
            go_roundw
            case rel => exact ⟨t + 1, b2, by omega, by rw [HE.out], HST.out.symm, by omega, HO4.out, HB4.out⟩
            case measure => simp [intOf]
          · have hs2 : b2 = b := by have := HS.out; rw [hold] at this; simpa using this
            have HS2 := hid hs2
            clear hs2
            clear hO hbe HS
            go_wp2_with fail
            go_roundw
            case rel => exact ⟨t + 1, b2, by omega, by rw [HE.out], HST.out.symm, by omega, by rw [HS2.out]; exact HO.out, Hbe.out⟩
            case measure => simp [intOf]
    · have hR : heldU room us = b.reverse := by
        unfold heldU
        rw [back_take _ _ _ (by simp)]
        congr 1
        by_cases htn' : t < n
        · obtain ⟨s, hs⟩ := fold_app (us.reverse.drop t) b
          have hf : us.reverse.foldl stepB [] = b ++ s := by
            rw [← hs, hbt, ← List.foldl_append, List.take_append_drop]
          rw [hf, List.take_append_of_le_length (by omega), List.take_of_length_le (by omega)]
        · have htl : us.reverse.take t = us.reverse := List.take_of_length_le (by have := Hn.out; simp; omega)
          rw [htl] at hbt
          rw [← hbt, List.take_of_length_le hbl]
      have hcase : (t < n ∧ ¬ (b.length : Int) < (room : Int) ∧ ∃ k : Nat, (n : Int) - 1 - (t : Int) = (k : Int)) ∨ (t = n ∧ (n : Int) - 1 - (t : Int) = -1) := by
        by_cases htn' : t < n
        · exact .inl ⟨htn', by omega, n - 1 - t, by omega⟩
        · exact .inr ⟨by omega, by omega⟩
      have HO := hid hO
      have Hbe := hid hbe
      have HR := hid hR
      clear hO hbe hR hbt
      rcases hcase with ⟨_, hc2, k, hk⟩ | ⟨_, hk⟩ <;> rw [hk] <;> clear hk
      all_goals
        go_wp2_with fail
        clear y1 y2
        obtain ⟨W0, hW0⟩ : ∃ W0, W0 = wr := ⟨wr, rfl⟩
        subst hW0
        go_loopw [7, 8] (fun ov iv wt => ∃ (u : Nat) (o : Us), u ≤ b.length ∧ iv = .int .i64 ((b.length : Int) - 1 - (u : Int)) ∧ o = b.reverse.take u ∧ OwU W0.heap.size wt ov o ∧ Below W0.heap.size W0 wt) (fun _ iv _ => (intOf iv + 1).toNat)
        case atStart => exact ⟨0, [], Nat.zero_le _, by simp, by simp, OwU.nil _ _, Below.refl _ _⟩
        case round =>
          obtain ⟨u, o, hu, rfl, ho, hO2, hb2⟩ := hrel
          obtain ⟨aO, cO, rfl, _⟩ := owns_slice hO2
          have hol : o.length = u := by rw [ho]; simp; omega
          subst hol
          by_cases hub : o.length < b.length
          · obtain ⟨gB, rfl, _, hgl, hcB⟩ := OwU.cells HO.out (by omega)
            obtain ⟨k2, hk2⟩ : ∃ k2 : Nat, k2 = b.length - 1 - o.length := ⟨_, rfl⟩
            have hkI : (b.length : Int) - 1 - (o.length : Int) = (k2 : Int) := by omega
            have hq : b[k2]? = some b[k2] := List.getElem?_eq_getElem (by omega)
            have hrv : b.reverse[o.length]? = some b[k2] := by rw [List.getElem?_reverse (by omega), ← hq, hk2]
            have HST : Hid (b.reverse.take (o.length + 1) = o ++ [b[k2]]) := by
              obtain ⟨hl, he⟩ := List.getElem?_eq_some_iff.1 hrv
              show _ = _
              rw [List.take_succ_eq_append_getElem hl, ← ho, he]
            have c0 := (hb2.cell (p := ⟨gB, k2 * 2, none⟩) hgl).trans (hcB k2 _ hq).1
            have c1 := (hb2.cell (p := ⟨gB, k2 * 2 + 1, none⟩) hgl).trans (hcB k2 _ hq).2
            have hkb : (k2 : Int) < (b.length : Int) := by omega
            have HE : Hid ((b.length : Int) - 1 - ((o.length + 1 : Nat) : Int) = (k2 : Int) - 1) := by show _ = _; omega
            rw [hkI]
            generalize b[k2] = q at *
            have HOa := hid (hO2.below ((Below.refl _ _).alloc (Nat.le_refl _) (.cells #[.int .i64 q.1, .string (strOfNums q.2)] 128)))
            have Hb2 := hid hb2
            have hws : W0.heap.size ≤ wr.heap.size := hb2.size
            generalize hSS : strOfNums q.2 = S at *
            have HSS := hid hSS
            clear hSS hkI hk2 hq hrv hcB hO2 hb2 ho
            go_wp2_with (at_builtin; refine wpList_append_lies _ rfl _ _ 89 (by rfl) W0.heap.size 128 i8 (.agg #[.int .i64 0, .string ⟨#[]⟩]) 2 24 Try.underlying89 hi8 hz8 hs8 hb8 rfl (by decide) _ o.length (ucs o) (by rfl) HOa.out ⟨wr.heap.size, 0, none⟩ 1 1 [.int .i64 q.1, .string S] (by rfl) (by rfl) (by exact news2 wr _ _ _) (by intro u hu; simp at hu; rcases hu with rfl | rfl <;> rfl) (by decide) (by unfold maxLen; omega) (by omega) (by simp; omega) (wr.heap.size + 1) (by simp) ?_)
            intro g4 cap4 w6 ho4 hg4 hlie4 _
            have HO4 : Hid (OwU W0.heap.size w6 (.slice (some ⟨g4, 0, none⟩) (o.length + 1) cap4) (o ++ [q])) := by
              show w6.ownsRow W0.heap.size 128 2 _ (o ++ [q]).length (ucs (o ++ [q]))
              rw [ucs_snoc, HSS.out, List.length_append]
              exact ho4
            have HB4 := hid ((Hb2.out.alloc hws (.cells #[.int .i64 q.1, .string S] 128)).grown hg4 (by simp; omega) (fun x e => (World.ownsRow.lt HOa.out x e).1))
            clear ho4 hg4 hlie4 c0 c1
            go_wp2_with fail
            go_roundw
            case rel => exact ⟨o.length + 1, o ++ [q], by omega, by rw [HE.out], HST.out.symm, HO4.out, HB4.out⟩
            case measure => simp [intOf]
          · have hk3 : (b.length : Int) - 1 - (o.length : Int) = -1 := by omega
            rw [hk3]
            have FIN : Hid (OwU w.heap.size wr (.slice aO o.length cO) o ∧ Below w.heap.size w wr ∧ o = heldU room us) := by
              refine ⟨hO2.base Hbe.out.size, Hbe.out.trans (hb2.mono Hbe.out.size), ?_⟩
              rw [HR.out, ho, List.take_of_length_le (by rw [List.length_reverse]; omega)]
            clear hO2 hb2 ho hk3
            go_wp2
            go_ret
            obtain ⟨f1, f2, f3⟩ := FIN.out
            rw [← f3]
            exact ⟨aO, cO, rfl, f1, f2⟩

end Go.Proofs.Ytfadnmdmohabmaa
