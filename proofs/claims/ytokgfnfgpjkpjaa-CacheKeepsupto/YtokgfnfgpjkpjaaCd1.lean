/-
  CacheBounds, CacheKeeps: unlike; lists of what is held.
-/
import Derived.Test.YtokgfnfgpjkpjaaCd0
namespace Go.Proofs.Ytokgfnfgpjkpjaa
open Go.RowKit

/-- the i-th number is one, or stands among the first j -/
def oldB (zs : List Int) (one : Int) (i j : Nat) : Bool := (zs.getD i 0 == one) || (zs.take j).any (· == zs.getD i 0)
theorem oldB_iff {zs : List Int} {one : Int} {i j : Nat} : oldB zs one i j = true ↔ zs.getD i 0 = one ∨ zs.getD i 0 ∈ zs.take j := by
  unfold oldB
  rw [Bool.or_eq_true, List.any_eq_true]
  refine or_congr (by simp) ⟨fun ⟨x, h1, h2⟩ => ?_, fun h => ⟨_, h, by simp⟩⟩
  rw [← (by simpa using h2 : x = zs.getD i 0)]
  exact h1
theorem take_one {zs : List Int} {j : Nat} (hj : j < zs.length) : zs.take (j + 1) = zs.take j ++ [zs.getD j 0] := by
  rw [List.take_succ_eq_append_getElem hj]
  simp [hj]
theorem oldB_zero (zs : List Int) (one : Int) (i : Nat) : oldB zs one i 0 = (zs.getD i 0 == one) := by simp [oldB]
theorem oldB_succ {zs : List Int} {one : Int} {i j : Nat} (hj : j < zs.length) : oldB zs one i (j + 1) = (oldB zs one i j || (zs.getD j 0 == zs.getD i 0)) := by
  unfold oldB
  rw [take_one hj, List.any_append, Bool.or_assoc]
  simp
/-- how many different numbers other than one stand among the first k -/
def unlikeN (zs : List Int) (one : Int) : Nat → Nat
  | 0 => 0
  | k + 1 => unlikeN zs one k + if oldB zs one k k then 0 else 1
/-- these numbers -/
def dd (zs : List Int) (one : Int) : Nat → List Int
  | 0 => []
  | k + 1 => if oldB zs one k k then dd zs one k else dd zs one k ++ [zs.getD k 0]
theorem dd_len (zs : List Int) (one : Int) (k : Nat) : (dd zs one k).length = unlikeN zs one k := by
  induction k with
  | zero => rfl
  | succ k ih =>
    unfold dd unlikeN
    split
    · rw [ih]; rfl
    · rw [List.length_append, ih]; rfl
theorem dd_mem {zs : List Int} {one : Int} {k : Nat} (hk : k ≤ zs.length) (x : Int) : x ∈ dd zs one k ↔ x ∈ zs.take k ∧ x ≠ one := by
  induction k with
  | zero => simp [dd]
  | succ k ih =>
    have ih := ih (by omega)
    have ht : zs.take (k + 1) = zs.take k ++ [zs.getD k 0] := take_one (by omega)
    unfold dd
    rw [ht]
    split
    · rename_i h
      rw [ih]
      constructor
      · rintro ⟨h1, h2⟩; exact ⟨by simp [h1], h2⟩
      · rintro ⟨h1, h2⟩
        refine ⟨?_, h2⟩
        rcases List.mem_append.1 h1 with h1 | h1
        · exact h1
        · have hx : x = zs.getD k 0 := by simpa using h1
          rcases oldB_iff.1 h with h | h
          · exact absurd (hx.trans h) h2
          · rw [hx]; exact h
    · rename_i h
      rw [List.mem_append, ih]
      constructor
      · rintro (⟨h1, h2⟩ | h1)
        · exact ⟨by simp [h1], h2⟩
        · have hx : x = zs.getD k 0 := by simpa using h1
          exact ⟨by rw [hx]; simp, fun e => h (oldB_iff.2 (.inl (hx ▸ e)))⟩
      · rintro ⟨h1, h2⟩
        rcases List.mem_append.1 h1 with h1 | h1
        · exact .inl ⟨h1, h2⟩
        · exact .inr h1
theorem dd_nodup {zs : List Int} {one : Int} {k : Nat} (hk : k ≤ zs.length) : (dd zs one k).Nodup := by
  induction k with
  | zero => exact List.nodup_nil
  | succ k ih =>
    have ih := ih (by omega)
    unfold dd
    split
    · exact ih
    · rename_i h
      refine List.nodup_append.2 ⟨ih, by simp, fun a ha b hb => ?_⟩
      have hb' : b = zs.getD k 0 := by simpa using hb
      rw [hb']
      exact fun e => h (oldB_iff.2 (.inr (by rw [← e]; exact ((dd_mem (by omega) a).1 ha).1)))
theorem nodup_le {α : Type} [DecidableEq α] : ∀ {a b : List α}, a.Nodup → (∀ x ∈ a, x ∈ b) → a.length ≤ b.length
  | [], _, _, _ => Nat.zero_le _
  | x :: t, b, hn, hs => by
    have hx : x ∈ b := hs x (by simp)
    obtain ⟨hxt, ht⟩ := List.nodup_cons.1 hn
    have h := nodup_le (b := b.erase x) ht (fun y hy => (List.mem_erase_of_ne (show y ≠ x from fun e => hxt (e ▸ hy))).2 (hs y (by simp [hy])))
    rw [List.length_erase_of_mem hx] at h
    have := List.length_pos_of_mem hx
    simp
    omega
theorem unlike_all {zs : List Int} {one : Int} (hn : zs.Nodup) (ho : one ∉ zs) : unlikeN zs one zs.length = zs.length := by
  rw [← dd_len]
  refine Nat.le_antisymm ?_ ?_
  · exact nodup_le (dd_nodup (Nat.le_refl _)) (fun x hx => by have := ((dd_mem (Nat.le_refl _) x).1 hx).1; rwa [List.take_length] at this)
  · exact nodup_le hn (fun x hx => (dd_mem (Nat.le_refl _) x).2 ⟨by rw [List.take_length]; exact hx, fun e => ho (e ▸ hx)⟩)

set_option maxRecDepth 100000 in
set_option maxHeartbeats 2000000 in
theorem unlike_any {B : Nat} {w : World} (hB : B ≤ w.heap.size) {a : Option Addr} {n c : Nat} {zs : List Int} (h : RdI B w a n zs) (one : Int) (hn : n ≤ 134217728) :
    Calls Try.prog 13 #[.slice a n c, .int .i64 one] w fun e w' => e = .returned (.int .i64 (unlikeN zs one n : Int)) ∧ Below w.heap.size w w' := by
  have hlen := h.1
  have hle : ∀ k, unlikeN zs one k ≤ k := fun k => by
    induction k with
    | zero => exact Nat.le_refl _
    | succ k ih => unfold unlikeN; split <;> omega
  go_enter Try.func13, Try.ntmps13
  go_wp2_with fail
  go_loopw [5, 6] (fun kv iv wt => ∃ i : Nat, i ≤ n ∧ kv = .int .i64 (unlikeN zs one i : Int) ∧ iv = .int .i64 (i : Int) ∧ Below w.heap.size w wt) (fun _ iv _ => n - (intOf iv).toNat)
  case atStart => exact ⟨0, Nat.zero_le _, rfl, rfl, Below.refl _ _⟩
  case round =>
    obtain ⟨i, hi, rfl, rfl, hbt⟩ := hrel
    by_cases hin : i < n
    · obtain ⟨b, o, rfl, hb, hc⟩ := h.2.resolve_left (by omega)
      have ci := (hbt.cell (p := ⟨b, o + i, none⟩) (Nat.lt_of_lt_of_le hb hB)).trans (hc i hin)
      have hin' : (i : Int) < (n : Int) := by omega
      have hU := hle i
      have HN : Hid (unlikeN zs one (i + 1) = unlikeN zs one i + if oldB zs one i i then 0 else 1) := rfl
      have H0 : Hid (oldB zs one i 0 = (zs.getD i 0 == one)) := oldB_zero zs one i
      have HJ : Hid (∀ j, j < i → oldB zs one i (j + 1) = (oldB zs one i j || (zs.getD j 0 == zs.getD i 0))) := fun j hj => oldB_succ (by omega)
      have HC : Hid (∀ j, j < n → w.cell? ⟨b, o + j, none⟩ = some (.int .i64 (zs.getD j 0))) := hc
      generalize unlikeN zs one i = U at *
      generalize hZi : zs.getD i 0 = zi at *
      obtain ⟨W0, hW0⟩ : ∃ W0, W0 = wr := ⟨wr, rfl⟩
      subst hW0
      clear hc h
      go_wp2_with fail
      go_loopw [7, 8] (fun av jv wt => ∃ j : Nat, j ≤ i ∧ av = .bool (oldB zs one i j) ∧ jv = .int .i64 (j : Int) ∧ Below w.heap.size w wt) (fun _ jv _ => i - (intOf jv).toNat)
      case atStart => exact ⟨0, Nat.zero_le _, by rw [H0.out], rfl, hbt⟩
      case round =>
        obtain ⟨j, hj, rfl, rfl, hbj⟩ := hrel
        by_cases hji : j < i
        · have cj := (hbj.cell (p := ⟨b, o + j, none⟩) (Nat.lt_of_lt_of_le hb hB)).trans (HC.out j (by omega))
          have ck := (hbj.cell (p := ⟨b, o + i, none⟩) (Nat.lt_of_lt_of_le hb hB)).trans (HC.out i hin)
          rw [hZi] at ck
          have HJj := hid (HJ.out j hji)
          have hji' : (j : Int) < (i : Int) := by omega
          have hjn' : (j : Int) < (n : Int) := by omega
          generalize zs.getD j 0 = zj at *
          cases hold : oldB zs one i j
          · rw [hold] at HJj
            go_wp2_with fail
            go_region
            all_goals go_wp2_with fail
            all_goals
              go_roundw
              case rel => exact ⟨j + 1, by omega, by rw [HJj.out]; simp, by go_num, hbj.drew⟩
              case measure => simp [intOf]; omega
          · rw [hold] at HJj
            go_wp2_with fail
            go_region
            all_goals go_wp2_with fail
            all_goals
              go_roundw
              case rel => exact ⟨j + 1, by omega, by rw [HJj.out]; simp, by go_num, hbj.drew⟩
              case measure => simp [intOf]; omega
        · obtain rfl : j = i := by omega
          have HN' := hid HN.out
          cases hold : oldB zs one j j
          · rw [hold] at HN'
            go_wp2_with fail
            go_roundw
            case rel => exact ⟨j + 1, by omega, by rw [HN'.out]; simp; try go_num, by go_num, hbj⟩
            case measure => simp [intOf]; omega
          · rw [hold] at HN'
            go_wp2_with fail
            go_roundw
            case rel => exact ⟨j + 1, by omega, by rw [HN'.out]; simp, by go_num, hbj⟩
            case measure => simp [intOf]; omega
    · obtain rfl : i = n := by omega
      go_wp2
      go_ret
      exact ⟨rfl, hbt⟩

end Go.Proofs.Ytokgfnfgpjkpjaa
