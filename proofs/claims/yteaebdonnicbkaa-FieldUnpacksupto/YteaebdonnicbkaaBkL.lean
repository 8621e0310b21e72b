/-
  PLAIN for FieldBack: what is packed and unpacked; three rows that grow side by side.
-/
import Derived.Test.YteaebdonnicbkaaUnpE
import Derived.Deep.AppendLies
namespace Go.Proofs.Yteaebdonnicbkaa
open Go.RowKit

theorem okF_cons {f : Int × Int} {r : List (Int × Int)} : okF (f :: r) ↔ chk f.1 f.2 = 0 ∧ okF r := by simp [okF]
theorem packZ_len {F : List (Int × Int)} : (packZ F).length = sumW (F.map (·.1)) := by
  induction F with
  | nil => rfl
  | cons f r ih =>
    simp only [packZ, List.flatMap_cons, List.length_append, Pl.length_dig, sumW, List.map_cons, List.sum_cons] at *
    rw [ih]
theorem okW_of_okF {F : List (Int × Int)} (h : okF F) : okW (F.map (·.1)) := by
  intro x hx
  obtain ⟨f, hf, rfl⟩ := List.mem_map.1 hx
  have := chk_zero (h f hf)
  simp [wfB]
  omega
/-- the k-th value of what was packed -/
theorem valK_pack (F : List (Int × Int)) (hF : okF F) : ∀ k, k < F.length → valK (packZ F) (F.map (·.1)) k = (F.getD k (0, 0)).2 := by
  induction F with
  | nil => intro k h; simp at h
  | cons f r ih =>
    rw [okF_cons] at hF
    obtain ⟨h1, h2, h3, h4⟩ := chk_zero hF.1
    intro k hk
    cases k with
    | zero =>
      unfold valK
      simp only [List.take_zero, sumW, List.map_nil, List.sum_nil, List.drop_zero, List.map_cons, packZ, List.flatMap_cons]
      rw [show ((f.1 :: List.map (fun x => x.1) r).getD 0 0) = f.1 from rfl, List.take_append_of_le_length (by rw [Pl.length_dig]; exact Nat.le_refl _), List.take_of_length_le (by rw [Pl.length_dig]; exact Nat.le_refl _), Pl.num_dig _ _ h3 h4]
      rfl
    | succ k =>
      have := ih hF.2 k (by simpa using hk)
      unfold valK at *
      simp only [List.map_cons, List.take_succ_cons, sumW, List.sum_cons, packZ, List.flatMap_cons] at *
      rw [show ((f.1 :: List.map (fun x => x.1) r).getD (k + 1) 0) = (List.map (fun x => x.1) r).getD k 0 from rfl]
      rw [List.drop_append, Pl.length_dig, List.drop_of_length_le (by rw [Pl.length_dig]; omega), List.nil_append, Nat.add_sub_cancel_left, this]
      rfl
theorem vals_pack (F : List (Int × Int)) (hF : okF F) : ∀ k, k ≤ F.length → vals (packZ F) (F.map (·.1)) k = (F.map (·.2)).take k := by
  intro k
  induction k with
  | zero => intro _; rfl
  | succ k ih =>
    intro hk
    rw [vals, ih (by omega), valK_pack F hF k (by omega), List.take_succ_eq_append_getElem (by simp; omega)]
    simp [show k < F.length by omega]

/-- what was unpacked, with its widths -/
def pairs (zs ws : List Int) : Nat → List (Int × Int)
  | 0 => []
  | k + 1 => pairs zs ws k ++ [(ws.getD k 0, valK zs ws k)]
theorem length_pairs (zs ws : List Int) (k : Nat) : (pairs zs ws k).length = k := by
  induction k with
  | zero => rfl
  | succ k ih => simp [pairs, ih]
theorem pairs_ok {zs ws : List Int} (hz : Pl.isB zs) (hw : okW ws) (hl : zs.length = sumW ws) : ∀ k, k ≤ ws.length → okF (pairs zs ws k) ∧ packZ (pairs zs ws k) = zs.take (sumW (ws.take k)) := by
  intro k
  induction k with
  | zero => intro _; exact ⟨by intro f hf; simp [pairs] at hf, by simp [pairs, packZ, sumW]⟩
  | succ k ih =>
    intro hk
    obtain ⟨i1, i2⟩ := ih (by omega)
    have hmem : ws.getD k 0 ∈ ws := by simp [show k < ws.length by omega]
    obtain ⟨w1, w2⟩ := wf_bd (hw _ hmem)
    have hpart := sumW_part (ws := ws) (k := k) (by omega)
    have hlen : ((zs.drop (sumW (ws.take k))).take (ws.getD k 0).toNat).length = (ws.getD k 0).toNat := by
      rw [List.length_take, List.length_drop]; omega
    have hB : Pl.isB ((zs.drop (sumW (ws.take k))).take (ws.getD k 0).toNat) := Pl.isB_take (Pl.isB_drop hz _) _
    have hlt := Pl.num_lt hB
    rw [hlen] at hlt
    have hd := Pl.dig_num hB
    rw [hlen] at hd
    have hv0 := Pl.num_nonneg hB
    constructor
    · intro f hf
      rcases List.mem_append.1 hf with h | h
      · exact i1 f h
      · simp at h
        subst h
        show chk (ws.getD k 0) (valK zs ws k) = 0
        unfold chk
        rw [if_neg (by rw [hw _ hmem]; decide), if_neg (fun h => h.elim (fun h => Int.not_lt.2 hv0 h) (fun h => Int.not_le.2 hlt h))]
    · rw [pairs, packZ_snoc, i2]
      unfold valK
      rw [hd, sumW_snoc (by omega), List.take_add]
theorem valK_bd {zs ws : List Int} (hz : Pl.isB zs) (k : Nat) : 0 ≤ valK zs ws k := Pl.num_nonneg (Pl.isB_take (Pl.isB_drop hz _) _)

/-! ### rows -/
def flat (F : List (Int × Int)) : List Value := F.flatMap fun f => [.int .i64 f.1, .int .i64 f.2]
theorem flat_snoc (F : List (Int × Int)) (f : Int × Int) : flat (F ++ [f]) = flat F ++ [.int .i64 f.1, .int .i64 f.2] := by simp [flat]
theorem flat_get (F : List (Int × Int)) : ∀ t, t < F.length → (flat F)[t * 2]? = some (.int .i64 (F.getD t (0, 0)).1) ∧ (flat F)[t * 2 + 1]? = some (.int .i64 (F.getD t (0, 0)).2) := by
  induction F with
  | nil => intro t h; simp at h
  | cons f r ih =>
    intro t h
    cases t with
    | zero => simp [flat]
    | succ t =>
      have := ih t (by simpa using h)
      simp only [flat, List.flatMap_cons] at *
      rw [show (t + 1) * 2 = t * 2 + 2 by omega]
      simpa using this
theorem owns_below {w w' : World} {base e size n : Nat} {v : Value} {xs : List Value} (h : w.ownsRow base e size v n xs) (hb : Below w.heap.size w w') : w'.ownsRow base e size v n xs := by
  obtain ⟨h1, h2⟩ := h
  refine ⟨h1, ?_⟩
  rcases h2 with h2 | ⟨g, cap, cur, hv, hg, hh, r⟩
  · exact .inl h2
  · refine .inr ⟨g, cap, cur, hv, hg, ?_, r⟩
    rw [hb.block g (Array.getElem?_eq_some_iff.1 hh).1]
    exact hh
/-- no block is both's -/
def Dj (v u : Value) : Prop := ∀ g, v.ownBlock = some g → u.ownBlock ≠ some g
structure Trio (B : Nat) (w : World) (s7 s8 s9 : Value) (n7 n8 n9 : Nat) (x7 x8 x9 : List Value) : Prop where
  r7 : w.ownsRow B 38 2 s7 n7 x7
  r8 : w.ownsRow B 3 1 s8 n8 x8
  r9 : w.ownsRow B 3 1 s9 n9 x9
  d78 : Dj s7 s8
  d79 : Dj s7 s9
  d89 : Dj s8 s9
theorem Trio.below {B : Nat} {w w' : World} {s7 s8 s9 : Value} {n7 n8 n9 : Nat} {x7 x8 x9 : List Value} (h : Trio B w s7 s8 s9 n7 n8 n9 x7 x8 x9) (hb : Below w.heap.size w w') : Trio B w' s7 s8 s9 n7 n8 n9 x7 x8 x9 :=
  ⟨owns_below h.r7 hb, owns_below h.r8 hb, owns_below h.r9 hb, h.d78, h.d79, h.d89⟩
theorem Trio.alloc {B : Nat} {w : World} {s7 s8 s9 : Value} {n7 n8 n9 : Nat} {x7 x8 x9 : List Value} (h : Trio B w s7 s8 s9 n7 n8 n9 x7 x8 x9) (o : Obj) : Trio B (w.alloc o) s7 s8 s9 n7 n8 n9 x7 x8 x9 :=
  h.below ((Below.refl _ _).alloc (Nat.le_refl _) _)
theorem dj_ne {v u : Value} (h : Dj v u) : u.ownBlock = none ∨ u.ownBlock ≠ v.ownBlock := by
  cases hv : v.ownBlock with
  | none => cases hu : u.ownBlock with
    | none => exact .inl rfl
    | some g => exact .inr (by simp)
  | some g => exact .inr (h g hv)
theorem dj_symm {v u : Value} (h : Dj v u) : Dj u v := fun g hu hv => h g hv hu
theorem dj_new {w : World} {base e size n : Nat} {v u : Value} {xs : List Value} {g m cap : Nat} (hd : Dj v u) (hu : w.ownsRow base e size u n xs) (hl : v.ownBlock = some g ∨ g = w.heap.size) : Dj (.slice (some ⟨g, 0, none⟩) m cap) u := by
  intro g' hg' hu'
  cases hg'
  rcases hl with hl | hl
  · exact hd g hl hu'
  · have := (World.ownsRow.lt hu g hu').2
    omega
theorem Trio.step7 {B : Nat} {w w' : World} {s7 s8 s9 : Value} {n7 n8 n9 : Nat} {x7 x8 x9 : List Value} (h : Trio B w s7 s8 s9 n7 n8 n9 x7 x8 x9) {g m cap : Nat} {x7' : List Value} (hg : w.grownBy w' s7.ownBlock) (ho : w'.ownsRow B 38 2 (.slice (some ⟨g, 0, none⟩) m cap) m x7') (hl : s7.ownBlock = some g ∨ g = w.heap.size) :
    Trio B w' (.slice (some ⟨g, 0, none⟩) m cap) s8 s9 m n8 n9 x7' x8 x9 :=
  ⟨ho, h.r8.kept hg (dj_ne h.d78), h.r9.kept hg (dj_ne h.d79), dj_new h.d78 h.r8 hl, dj_new h.d79 h.r9 hl, h.d89⟩
theorem Trio.step8 {B : Nat} {w w' : World} {s7 s8 s9 : Value} {n7 n8 n9 : Nat} {x7 x8 x9 : List Value} (h : Trio B w s7 s8 s9 n7 n8 n9 x7 x8 x9) {g m cap : Nat} {x8' : List Value} (hg : w.grownBy w' s8.ownBlock) (ho : w'.ownsRow B 3 1 (.slice (some ⟨g, 0, none⟩) m cap) m x8') (hl : s8.ownBlock = some g ∨ g = w.heap.size) :
    Trio B w' s7 (.slice (some ⟨g, 0, none⟩) m cap) s9 n7 m n9 x7 x8' x9 :=
  ⟨h.r7.kept hg (dj_ne (dj_symm h.d78)), ho, h.r9.kept hg (dj_ne h.d89), dj_symm (dj_new (dj_symm h.d78) h.r7 hl), h.d79, dj_new h.d89 h.r9 hl⟩
theorem Trio.step9 {B : Nat} {w w' : World} {s7 s8 s9 : Value} {n7 n8 n9 : Nat} {x7 x8 x9 : List Value} (h : Trio B w s7 s8 s9 n7 n8 n9 x7 x8 x9) {g m cap : Nat} {x9' : List Value} (hg : w.grownBy w' s9.ownBlock) (ho : w'.ownsRow B 3 1 (.slice (some ⟨g, 0, none⟩) m cap) m x9') (hl : s9.ownBlock = some g ∨ g = w.heap.size) :
    Trio B w' s7 s8 (.slice (some ⟨g, 0, none⟩) m cap) n7 n8 m x7 x8 x9' :=
  ⟨h.r7.kept hg (dj_ne (dj_symm h.d79)), h.r8.kept hg (dj_ne (dj_symm h.d89)), ho, h.d78, dj_symm (dj_new (dj_symm h.d79) h.r7 hl), dj_symm (dj_new (dj_symm h.d89) h.r8 hl)⟩
/-- a cell of a block that is none of a row's is as it was -/
theorem cell_apart {w w' : World} {row : Option Nat} (hg : w.grownBy w' row) {p : Addr} {v : Value} (hc : w.cell? p = some v) (hne : row ≠ some p.block) : w'.cell? p = some v := hg.cell hc (Ne.symm hne)
theorem own_lt {w : World} {base e size n : Nat} {v : Value} {xs : List Value} (h : w.ownsRow base e size v n xs) {k : Nat} (hk : w.heap.size ≤ k) : v.ownBlock ≠ some k := fun e => by
  have := (World.ownsRow.lt h k e).2
  omega
theorem owns_slice {w : World} {base e size n : Nat} {v : Value} {xs : List Value} (h : w.ownsRow base e size v n xs) : ∃ a c, v = .slice a n c ∧ (a = none → c = 0) := by
  rcases h.2 with ⟨h1, h2⟩ | ⟨g, cap, cur, h1, _⟩
  · subst h2; exact ⟨none, 0, h1, fun _ => rfl⟩
  · exact ⟨_, cap, h1, fun h => by cases h⟩
theorem rdi_of_owns {w : World} {base n : Nat} {a : Option Addr} {c : Nat} {zs : List Int} (h : w.ownsRow base 3 1 (.slice a n c) n (zs.map (Value.int .i64))) : RdI w.heap.size w a n zs := by
  have hl : zs.length = n := by simpa using h.1
  refine ⟨hl, ?_⟩
  rcases h.2 with ⟨_, h2⟩ | ⟨g, cap, cur, h1, h2, _⟩
  · exact .inl h2
  · simp at h1
    obtain ⟨rfl, rfl⟩ := h1
    refine .inr ⟨g, 0, rfl, (World.ownsRow.lt h g rfl).2, fun t ht => ?_⟩
    rw [Nat.zero_add, World.ownsRow.cellAt h t (by omega)]
    simp [show t < zs.length by omega]
theorem rdf_of_owns {w : World} {base n : Nat} {a : Option Addr} {c : Nat} {F : List (Int × Int)} (h : w.ownsRow base 38 2 (.slice a n c) n (flat F)) (hl : F.length = n) (hF : okF F) (hb : ∀ f ∈ F, f.2 ≤ 9223372036854775807) : RdF w.heap.size w a n F := by
  refine ⟨hl, fun f hf => ⟨by have := chk_zero (hF f hf); omega, hb f hf⟩, ?_⟩
  rcases h.2 with ⟨_, h2⟩ | ⟨g, cap, cur, h1, h2, _⟩
  · exact .inl h2
  · simp at h1
    obtain ⟨rfl, rfl⟩ := h1
    refine .inr ⟨g, 0, rfl, (World.ownsRow.lt h g rfl).2, fun t ht => ?_⟩
    have hf := flat_get F t (by omega)
    rw [Nat.zero_add, World.ownsRow.cellAt h (t * 2) (by omega), World.ownsRow.cellAt h (t * 2 + 1) (by omega)]
    exact hf

end Go.Proofs.Yteaebdonnicbkaa
