/-
  PLAIN: long texts and many tokens. No program in it.
-/
import Derived.Test.YtbllaacbeagljaaGreatDoorLp0
namespace Go.Proofs.YtbllaacbeagljaaGreatDoor

theorem pasA_run {p : Int → Bool} {zs : List Int} (k : Nat) : ∀ m, k + m ≤ zs.length → (∀ t, t < m → p (zs.getD (k + t) 0) = true) → pasA p zs k = pasA p zs (k + m)
  | 0, _, _ => rfl
  | m + 1, h, ha => by
    rw [pasA_run k m (by omega) (fun t ht => ha t (by omega)), pasA_step (by omega) (ha m (by omega))]
    rfl
theorem skA_run {zs : List Int} (k : Nat) : ∀ m, k + m ≤ zs.length → (∀ t, t < m → zs.getD (k + t) 0 = 32) → skA false zs k = skA false zs (k + m)
  | 0, _, _ => rfl
  | m + 1, h, ha => by
    rw [skA_run k m (by omega) (fun t ht => ha t (by omega)), skA_blank (by omega) (by rw [ha m (by omega)]; rfl)]
    rfl
theorem let_wd {z : Int} (h : isLet z = true) : isWd z = true := by unfold isWd; rw [h]; rfl
theorem let_bl {z : Int} (h : isLet z = true) : isBl z = false ∧ z ≠ 35 := by
  unfold isLet at h
  unfold isBl
  simp at h ⊢
  omega
/-- a word that stands at a place, no letter or digit behind it -/
theorem word_at {zs l : List Int} {k c : Nat} (hl : 0 < l.length) (hk : k + l.length ≤ zs.length) (hz : ∀ t, t < l.length → zs.getD (k + t) 0 = l.getD t 0) (ha : ∀ z ∈ l, isLet z = true) (he : k + l.length < zs.length → isWd (zs.getD (k + l.length) 0) = false) (hc : c ≠ 16384) :
    skA false zs k = k ∧ nxtA zs k c = (⟨1, l, 0, k⟩, k + l.length, 0) := by
  have hat : ∀ t, t < l.length → isLet (l.getD t 0) = true := fun t ht => by
    rw [List.getD_eq_getElem?_getD, List.getElem?_eq_getElem ht]
    exact ha _ (List.getElem_mem ht)
  have h0 : isLet (zs.getD k 0) = true := by
    have := hz 0 hl
    rw [Nat.add_zero] at this
    rw [this]
    exact hat 0 hl
  have hb := let_bl h0
  have hp : pasA isWd zs k = k + l.length := by
    rw [pasA_run k l.length hk (fun t ht => by rw [hz t ht]; exact let_wd (hat t ht))]
    by_cases q : k + l.length < zs.length
    · exact pasA_stop q (he q)
    · exact pasA_end (by omega)
  refine ⟨skA_stop (by omega) hb.1 hb.2, ?_⟩
  unfold nxtA tokA
  rw [if_neg hc, if_pos h0, hp]
  have hs : subL zs k (k + l.length) = l := by
    apply List.ext_getElem
    · rw [sub_len hk]; omega
    · intro i h1 h2
      have e1 : (subL zs k (k + l.length)).getD i 0 = zs.getD (k + i) 0 := by
        unfold subL
        rw [List.getD_eq_getElem?_getD, List.getElem?_drop, List.getElem?_take_of_lt (by omega), List.getD_eq_getElem?_getD]
      rw [hz i h2] at e1
      rw [List.getD_eq_getElem?_getD, List.getElem?_eq_getElem h1, List.getD_eq_getElem?_getD, List.getElem?_eq_getElem h2] at e1
      exact e1
  rw [hs]
/-- one word among blanks -/
theorem one_word {zs l : List Int} {m : Nat} (hl : 0 < l.length) (hm : m + l.length ≤ zs.length) (h1 : ∀ t, t < m → zs.getD t 0 = 32) (h2 : ∀ t, t < l.length → zs.getD (m + t) 0 = l.getD t 0) (h3 : ∀ t, m + l.length ≤ t → t < zs.length → zs.getD t 0 = 32) (ha : ∀ z ∈ l, isLet z = true) (hlen : zs.length ≤ 65536) : lexP zs = ([⟨1, l, 0, m⟩], 0, 0) := by
  have hw := word_at (zs := zs) (l := l) (k := m) (c := 0) hl hm h2 ha (fun q => by rw [h3 _ (Nat.le_refl _) q]; rfl) (by decide)
  have hs : skA false zs 0 = m := by
    rw [skA_run 0 m (by omega) (fun t ht => by rw [Nat.zero_add]; exact h1 t ht), Nat.zero_add]
    exact hw.1
  have he : skA false zs (m + l.length) = zs.length := by
    rw [skA_run (m + l.length) (zs.length - (m + l.length)) (by omega) (fun t ht => h3 _ (by omega) (by omega)), skA_end (by omega)]
    omega
  unfold lexP
  rw [if_neg (by omega), lexA_ok (Nat.zero_le _) (by omega) (by rw [hs, hw.2]), hs, hw.2]
  simp only
  rw [lexA_end _ (by omega)]
  rfl
/-- words with a blank between each two: their places -/
structure Wds (l zs : List Int) (N : Nat) : Prop where
  len : zs.length + 1 = N * (l.length + 1)
  wd : ∀ j, j < N → ∀ t, t < l.length → zs.getD (j * (l.length + 1) + t) 0 = l.getD t 0
  bl : ∀ j, j + 1 < N → zs.getD (j * (l.length + 1) + l.length) 0 = 32
theorem many_words {l zs : List Int} {N : Nat} (h : Wds l zs N) (hl : 0 < l.length) (ha : ∀ z ∈ l, isLet z = true) (hN : N ≤ 16384) : ∀ m j, j + m + 1 = N → (lexA zs (j * (l.length + 1)) j).2.2 = 0 ∧ (lexA zs (j * (l.length + 1)) j).1.length = m + 1
  | m, j, hj => by
    have hd : (j + 1) * (l.length + 1) = j * (l.length + 1) + (l.length + 1) := Nat.succ_mul _ _
    have hle : (j + 1) * (l.length + 1) ≤ N * (l.length + 1) := Nat.mul_le_mul_right _ (by omega)
    have hlen := h.len
    have hw := word_at (zs := zs) (l := l) (k := j * (l.length + 1)) (c := j) hl (by omega) (fun t ht => h.wd j (by omega) t ht) ha (fun q => by
      by_cases qm : j + 1 < N
      · rw [h.bl j qm]; rfl
      · have : N = j + 1 := by omega
        rw [this] at hlen
        omega) (by omega)
    rw [lexA_ok (by omega) (by rw [hw.1]; omega) (by rw [hw.1, hw.2]), hw.1, hw.2]
    simp only
    match m, hj with
    | 0, hj =>
      have hN1 : N = j + 1 := by omega
      rw [hN1] at hlen
      rw [lexA_end _ (by rw [skA_end (by omega)]; omega)]
      exact ⟨rfl, rfl⟩
    | m + 1, hj =>
      have ih := many_words h hl ha hN m (j + 1) (by omega)
      have hbl := h.bl j (by omega)
      have hd2 : (j + 1 + 1) * (l.length + 1) = (j + 1) * (l.length + 1) + (l.length + 1) := Nat.succ_mul _ _
      have hle2 : (j + 1 + 1) * (l.length + 1) ≤ N * (l.length + 1) := Nat.mul_le_mul_right _ (by omega)
      have hx1 : j * (l.length + 1) + l.length < zs.length := by omega
      have hx2 : (j + 1) * (l.length + 1) ≤ zs.length := by omega
      have hsk : skA false zs (j * (l.length + 1) + l.length) = skA false zs ((j + 1) * (l.length + 1)) := by
        rw [skA_blank hx1 (by rw [hbl]; rfl), hd]
        rfl
      rw [lexA_skip (Nat.le_of_lt hx1) ((j + 1) * (l.length + 1)) hx2 hsk]
      unfold fin
      rw [if_pos ih.1]
      exact ⟨rfl, by simp [ih.2]⟩
/-- marks, one behind the other -/
theorem mark_at {zs : List Int} {k c : Nat} (hk : k < zs.length) (hz : zs.getD k 0 = 59) (hc : c ≠ 16384) : skA false zs k = k ∧ (nxtA zs k c).2 = (k + 1, 0) := by
  refine ⟨skA_stop hk (by rw [hz]; rfl) (by omega), ?_⟩
  unfold nxtA tokA
  rw [if_neg hc, hz]
  rfl
theorem many_marks {zs : List Int} (hz : ∀ j, j < zs.length → zs.getD j 0 = 59) (hn : zs.length ≤ 16384) : ∀ m j, j + m = zs.length → (lexA zs j j).2.2 = 0 ∧ (lexA zs j j).1.length = m
  | 0, j, hj => by
    rw [lexA_end _ (by rw [skA_end (by omega)]; omega)]
    exact ⟨rfl, rfl⟩
  | m + 1, j, hj => by
    have hm := mark_at (zs := zs) (k := j) (c := j) (by omega) (hz j (by omega)) (by omega)
    have ih := many_marks hz hn m (j + 1) (by omega)
    have h2 : (nxtA zs j j).2.2 = 0 := by rw [hm.2]
    have h1 : (nxtA zs j j).2.1 = j + 1 := by rw [hm.2]
    rw [lexA_ok (by omega) (by rw [hm.1]; omega) (by rw [hm.1]; exact h2), hm.1, h1]
    unfold fin
    rw [if_pos ih.1]
    exact ⟨rfl, by simp [ih.2]⟩
theorem over_marks {zs : List Int} (hz : ∀ j, j < zs.length → zs.getD j 0 = 59) (hn : zs.length = 16385) : ∀ m j, j + m = 16384 → lexA zs j j = ([], 16384, 184)
  | 0, j, hj => by
    have hj' : j = 16384 := by omega
    subst hj'
    have hs : skA false zs 16384 = 16384 := skA_stop (by omega) (by rw [hz _ (by omega)]; rfl) (by rw [hz _ (by omega)]; decide)
    have hx : nxtA zs 16384 16384 = (tk0 16384, 16384, 184) := by unfold nxtA; rw [if_pos rfl]; rfl
    rw [lexA_err (by omega) (by omega) (by rw [hs, hx]; decide), hs, hx]
  | m + 1, j, hj => by
    have hm := mark_at (zs := zs) (k := j) (c := j) (by omega) (hz j (by omega)) (by omega)
    have ih := over_marks hz hn m (j + 1) (by omega)
    have h2 : (nxtA zs j j).2.2 = 0 := by rw [hm.2]
    have h1 : (nxtA zs j j).2.1 = j + 1 := by rw [hm.2]
    rw [lexA_ok (by omega) (by rw [hm.1]; omega) (by rw [hm.1]; exact h2), hm.1, h1, ih]
    rfl
/-! ### what is written -/
def jnL : List (List Int) → List Int
  | [] => []
  | [l] => l
  | l :: r => l ++ 32 :: jnL r

end Go.Proofs.YtbllaacbeagljaaGreatDoor
