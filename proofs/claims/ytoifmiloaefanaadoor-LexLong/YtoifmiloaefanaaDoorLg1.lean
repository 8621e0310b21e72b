/-
  LexLong: the word written many times; Untoken of it.
-/
import Derived.Test.YtoifmiloaefanaaDoorMk
namespace Go.Proofs.YtoifmiloaefanaaDoor
open Go.RowKit

theorem jnL_two (l : List Int) (N : Nat) : jnL (List.replicate (N + 2) l) = l ++ 32 :: jnL (List.replicate (N + 1) l) := rfl
theorem getD_front (l zs : List Int) (t : Nat) (h : t < l.length) : (l ++ 32 :: zs).getD t 0 = l.getD t 0 := by
  rw [List.getD_eq_getElem?_getD, List.getElem?_append_left h, List.getD_eq_getElem?_getD]
theorem getD_mid (l zs : List Int) : (l ++ 32 :: zs).getD l.length 0 = 32 := by
  rw [List.getD_eq_getElem?_getD, List.getElem?_append_right (Nat.le_refl _)]
  simp
theorem getD_back (l zs : List Int) (t : Nat) : (l ++ 32 :: zs).getD (l.length + 1 + t) 0 = zs.getD t 0 := by
  rw [List.getD_eq_getElem?_getD, List.getElem?_append_right (by omega), show l.length + 1 + t - l.length = t + 1 by omega, List.getElem?_cons_succ, List.getD_eq_getElem?_getD]
theorem wds_rep (l : List Int) : ∀ N, Wds l (jnL (List.replicate (N + 1) l)) (N + 1)
  | 0 => ⟨by simp [jnL], fun j hj t ht => by rw [show j = 0 by omega]; simp [jnL], fun j hj => by omega⟩
  | N + 1 => by
    have ih := wds_rep l N
    rw [jnL_two]
    refine ⟨?_, ?_, ?_⟩
    · have := ih.len
      rw [List.length_append, List.length_cons, Nat.succ_mul (N + 1)]
      omega
    · intro j hj t ht
      match j with
      | 0 => rw [Nat.zero_mul, Nat.zero_add]; exact getD_front _ _ _ ht
      | j + 1 =>
        rw [show (j + 1) * (l.length + 1) + t = l.length + 1 + (j * (l.length + 1) + t) by rw [Nat.succ_mul]; omega, getD_back]
        exact ih.wd j (by omega) t ht
    · intro j hj
      match j with
      | 0 => rw [Nat.zero_mul, Nat.zero_add]; exact getD_mid _ _
      | j + 1 =>
        rw [show (j + 1) * (l.length + 1) + l.length = l.length + 1 + (j * (l.length + 1) + l.length) by rw [Nat.succ_mul]; omega, getD_back]
        exact ih.bl j (by omega)
theorem jn_isB {l : List Int} (h : Pl.isB l) : ∀ N, Pl.isB (jnL (List.replicate (N + 1) l))
  | 0 => by simpa [jnL] using h
  | N + 1 => by
    rw [jnL_two]
    intro z hz
    rcases List.mem_append.1 hz with q | q
    · exact h z q
    · rcases List.mem_cons.1 q with q | q
      · omega
      · exact jn_isB h N z q
/-- a word of small letters -/
def LetW (l : List Int) : Prop := ∀ z ∈ l, 97 ≤ z ∧ z ≤ 122
theorem LetW.isB {l : List Int} (h : LetW l) : Pl.isB l := fun z hz => by have := h z hz; omega
theorem let_of {l : List Int} (h : LetW l) : ∀ z ∈ l, isLet z = true := fun z hz => by
  have := h z hz
  unfold isLet
  simp
  omega
theorem lexP_words {l : List Int} (h0 : 0 < l.length) (h : LetW l) (hl : l.length ≤ 3) : (lexP (jnL (List.replicate 16384 l))).2.2 = 0 ∧ (lexP (jnL (List.replicate 16384 l))).1.length = 16384 := by
  have hw : Wds l (jnL (List.replicate 16384 l)) 16384 := wds_rep l 16383
  have hlen := hw.len
  have := many_words hw h0 (let_of h) (Nat.le_refl _) 16383 0 rfl
  unfold lexP
  rw [if_neg (by omega)]
  rw [Nat.zero_mul] at this
  exact this
theorem jn_len (l : List Int) : (jnL (List.replicate 16384 l)).length + 1 = 16384 * (l.length + 1) := (wds_rep l 16383).len
theorem tok_word {l : List Int} (h0 : 0 < l.length) (h : LetW l) : tokA l 0 = (⟨1, l, 0, 0⟩, l.length, 0) := by
  have := (word_at (zs := l) (l := l) (k := 0) (c := 0) h0 (by omega) (fun t _ => by rw [Nat.zero_add]) (let_of h) (fun q => by omega) (by decide)).2
  unfold nxtA at this
  rw [if_neg (by decide)] at this
  rw [this, Nat.zero_add]
  rfl
theorem wrL_one (l : List Int) : wrL 1 l = l := by unfold wrL; rw [if_pos (.inl rfl)]
theorem OwT.cap {B : Nat} {w : World} {a : Option Addr} {m c : Nat} {ts : List Tk} (h : OwT B w (.slice a m c) ts) (h0 : 0 < ts.length) : ts.length ≤ c := by
  rcases h.2 with ⟨e, q⟩ | ⟨g, cap, cur, e, _, _, hle, _⟩
  · omega
  · simp at e
    obtain ⟨_, _, rfl⟩ := e
    exact hle
def tkW (l : List Int) : Tk := ⟨1, l, 0, 0⟩
theorem unt_calls {b : Nat} {w W : World} {ma : Option Addr} {mc : Nat} {l : List Int} (hB : Below b w W) (hb : b ≤ w.heap.size) (hO : OwT b W (.slice ma 16385 mc) (List.replicate 16385 (tkW l))) (h0 : 0 < l.length) (hl : l.length ≤ 4) (h : LetW l) :
    Calls Tryd.prog 9 #[.slice ma 16384 mc] W fun e W1 => e = .returned (.tuple #[.string (strOfNums (jnQ (List.replicate 16384 l)).1), .int .i64 (jnQ (List.replicate 16384 l)).2]) ∧ Calls Tryd.prog 9 #[.slice ma 16385 mc] W1 fun e W2 => e = .returned (.tuple #[.string ⟨#[]⟩, .int .i64 184]) ∧ Below b w W2 := by
  have z0 := hB.size
  have hr := (hO.rd (by rw [List.length_replicate])).take 16384
  rw [List.take_replicate] at hr
  have hr : TkR W ma (List.replicate 16384 (tkW l)) := hr
  have hmb : ∀ w', Mb18 w' (tokV (tkW l)) true := fun w' => mayBe_yes 1 l 0 0 w' (by decide) (by rw [wrL_one]; exact h.isB) (by omega) (by rw [wrL_one]; intro e; rw [e] at h0; simp at h0) l.length (by rw [wrL_one]; exact tok_word h0 h)
  have hwr : ∀ w', Wr28 w' (tokV (tkW l)) l := fun w' => by
    have := written_any 1 l 0 0 w' (by decide) (by omega)
    rw [wrL_one] at this
    exact this
  refine (Untoken_yes ma 16384 mc (List.replicate 16384 (tkW l)) W List.length_replicate hr (Nat.le_refl _) (jnQ (List.replicate 16384 l)).1 (jnQ (List.replicate 16384 l)).2 (fun j hj w' _ => by rw [List.getElem_replicate]; exact hmb w') (fun w' hb' => joined_any ma 16384 mc (List.replicate 16384 (tkW l)) (List.replicate 16384 l) w' List.length_replicate List.length_replicate (hr.next hb') (by omega) (fun j hj hj' w'' _ => by rw [List.getElem_replicate, List.getElem_replicate]; exact hwr w'') (fun x hx => by rw [List.eq_of_mem_replicate hx]; omega))).mono ?_
  rintro e W1 ⟨rfl, b1⟩
  refine ⟨rfl, (Untoken_many ma 16385 mc W1 (by omega)).mono ?_⟩
  rintro e W2 ⟨rfl, rfl⟩
  exact ⟨rfl, hB.trans (b1.mono (by omega))⟩

end Go.Proofs.YtoifmiloaefanaaDoor
