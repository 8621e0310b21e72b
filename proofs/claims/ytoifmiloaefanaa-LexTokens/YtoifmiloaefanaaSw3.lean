/-
  The Shelf: write: rounds in plain words.
-/
import Derived.Test.YtoifmiloaefanaaSw2
namespace Go.Proofs.Ytoifmiloaefanaa
open Go.RowKit

/-- the lists, those ahead written over -/
def lsOf : List (Value × List Tk) → List (Nat × List Tk) → List (Value × List Tk)
  | [], _ => []
  | f :: fs, [] => f :: fs
  | f :: fs, q :: pw => (f.1, q.2.take f.2.length) :: lsOf fs pw
/-- what they are to hold, in two names each -/
def zsOf : List (Value × List Tk) → List (Nat × List Tk) → List Value
  | [], _ => []
  | _ :: _, [] => []
  | f :: fs, q :: pw => .slice (some ⟨q.1, 0, none⟩) f.2.length q.2.length :: .slice (some ⟨q.1, 0, none⟩) q.2.length q.2.length :: zsOf fs pw
def dpOf (fs : List (Value × List Tk)) : List Value := fs.flatMap fun f => [f.1, f.1]
theorem lsOf_len : ∀ (fs : List (Value × List Tk)) (pw : List (Nat × List Tk)), (lsOf fs pw).length = fs.length
  | [], _ => rfl
  | f :: fs, [] => rfl
  | f :: fs, q :: pw => by simp [lsOf, lsOf_len fs pw]
theorem lsOf_at : ∀ (fs : List (Value × List Tk)) (pw : List (Nat × List Tk)) (h : pw.length < fs.length), (lsOf fs pw)[pw.length]'(by rw [lsOf_len]; exact h) = fs[pw.length]
  | f :: fs, [], h => rfl
  | f :: fs, q :: pw, h => by
    have := lsOf_at fs pw (by simpa using h)
    simpa [lsOf] using this
theorem lsOf_snoc : ∀ (fs : List (Value × List Tk)) (pw : List (Nat × List Tk)) (x : Nat × List Tk) (h : pw.length < fs.length), lsOf fs (pw ++ [x]) = (lsOf fs pw).set pw.length (fs[pw.length].1, x.2.take fs[pw.length].2.length)
  | f :: fs, [], x, h => by
    cases fs <;> simp [lsOf]
  | f :: fs, q :: pw, x, h => by
    have := lsOf_snoc fs pw x (by simpa using h)
    simp only [List.cons_append, lsOf, this]
    simp
theorem zsOf_snoc : ∀ (fs : List (Value × List Tk)) (pw : List (Nat × List Tk)) (x : Nat × List Tk) (h : pw.length < fs.length), zsOf fs (pw ++ [x]) = zsOf fs pw ++ [.slice (some ⟨x.1, 0, none⟩) fs[pw.length].2.length x.2.length, .slice (some ⟨x.1, 0, none⟩) x.2.length x.2.length]
  | f :: fs, [], x, h => by
    cases fs <;> simp [zsOf]
  | f :: fs, q :: pw, x, h => by
    have := zsOf_snoc fs pw x (by simpa using h)
    simp only [List.cons_append, zsOf, this]
    simp
theorem dpOf_take (fs : List (Value × List Tk)) (i : Nat) (h : i < fs.length) : dpOf (fs.take (i + 1)) = dpOf (fs.take i) ++ [fs[i].1, fs[i].1] := by
  unfold dpOf
  rw [List.take_succ_eq_append_getElem h, List.flatMap_append]
  simp
/-- the second loop: what hangs in the row -/
def mxOf : List (Value × List Tk) → List Value → List Value
  | [], _ => []
  | f :: fs, [] => f.1 :: f.1 :: mxOf fs []
  | f :: fs, u :: us => f.1 :: u :: mxOf fs us
theorem mxOf_nil : ∀ (fs : List (Value × List Tk)), mxOf fs [] = dpOf fs
  | [] => rfl
  | f :: fs => by
    rw [mxOf, mxOf_nil fs]
    rfl
theorem mxOf_len : ∀ (fs : List (Value × List Tk)) (us : List Value), (mxOf fs us).length = 2 * fs.length
  | [], _ => rfl
  | f :: fs, [] => by simp [mxOf, mxOf_len fs []]; omega
  | f :: fs, u :: us => by simp [mxOf, mxOf_len fs us]; omega
theorem mxOf_at : ∀ (fs : List (Value × List Tk)) (us : List Value) (h : us.length < fs.length), (mxOf fs us)[2 * us.length]? = some fs[us.length].1 ∧ (mxOf fs us)[2 * us.length + 1]? = some fs[us.length].1
  | f :: fs, [], h => ⟨rfl, rfl⟩
  | f :: fs, u :: us, h => by
    have := mxOf_at fs us (by simpa using h)
    have e : 2 * (u :: us).length = 2 * us.length + 1 + 1 := by rw [List.length_cons]; omega
    refine ⟨?_, ?_⟩
    · simp only [e, mxOf, List.getElem?_cons_succ]
      exact this.1
    · simp only [e, mxOf, List.getElem?_cons_succ]
      exact this.2
theorem mxOf_snoc : ∀ (fs : List (Value × List Tk)) (us : List Value) (x : Value) (_ : us.length < fs.length), mxOf fs (us ++ [x]) = (mxOf fs us).set (2 * us.length + 1) x
  | f :: fs, [], x, h => rfl
  | f :: fs, u :: us, x, h => by
    have := mxOf_snoc fs us x (by simpa using h)
    simp only [List.cons_append, mxOf, this]
    rw [List.length_cons, show 2 * (us.length + 1) + 1 = 2 * us.length + 1 + 1 + 1 by omega]
    rfl
theorem zsOf_len : ∀ (fs : List (Value × List Tk)) (pw : List (Nat × List Tk)), pw.length ≤ fs.length → (zsOf fs pw).length = 2 * pw.length
  | [], [], _ => rfl
  | [], q :: pw, h => by simp at h
  | f :: fs, [], h => rfl
  | f :: fs, q :: pw, h => by simp [zsOf, zsOf_len fs pw (by simpa using h)]; omega
theorem zsOf_at : ∀ (fs : List (Value × List Tk)) (pw : List (Nat × List Tk)) (p : Nat) (h : p < fs.length) (h' : p < pw.length), (zsOf fs pw)[2 * p]? = some (.slice (some ⟨pw[p].1, 0, none⟩) fs[p].2.length pw[p].2.length) ∧ (zsOf fs pw)[2 * p + 1]? = some (.slice (some ⟨pw[p].1, 0, none⟩) pw[p].2.length pw[p].2.length)
  | f :: fs, q :: pw, 0, _, _ => ⟨rfl, rfl⟩
  | f :: fs, q :: pw, p + 1, h, h' => by
    have := zsOf_at fs pw p (by simpa using h) (by simpa using h')
    rw [show 2 * (p + 1) = 2 * p + 1 + 1 by omega]
    exact this
theorem lsOf_all : ∀ (fs : List (Value × List Tk)) (pw : List (Nat × List Tk)) (p : Nat) (h : p < fs.length) (h' : p < pw.length), (lsOf fs pw)[p]'(by rw [lsOf_len]; exact h) = (fs[p].1, pw[p].2.take fs[p].2.length)
  | f :: fs, q :: pw, 0, _, _ => rfl
  | f :: fs, q :: pw, p + 1, h, h' => by
    have := lsOf_all fs pw p (by simpa using h) (by simpa using h')
    simpa [lsOf] using this
/-- what is read in the end -/
def msOf : List (Value × List Tk) → List (Nat × List Tk) → List (List Tk)
  | [], _ => []
  | _ :: _, [] => []
  | f :: fs, q :: pw => q.2.take f.2.length :: q.2 :: msOf fs pw
theorem msOf_len : ∀ (fs : List (Value × List Tk)) (pw : List (Nat × List Tk)), pw.length = fs.length → (msOf fs pw).length = 2 * fs.length
  | [], _, _ => rfl
  | f :: fs, [], h => by simp at h
  | f :: fs, q :: pw, h => by simp [msOf, msOf_len fs pw (by simpa using h)]; omega
/-- pairs that are read -/
def rpOf : List (Value × List Tk) → List (Nat × List Tk) → List Value → List (Value × List Tk)
  | f :: fs, q :: pw, u :: us => (f.1, q.2.take f.2.length) :: (u, q.2) :: rpOf fs pw us
  | _, _, _ => []
theorem rpOf_snoc : ∀ (fs : List (Value × List Tk)) (pw : List (Nat × List Tk)) (us : List Value) (x : Value) (h : us.length < fs.length) (h' : us.length < pw.length), rpOf fs pw (us ++ [x]) = rpOf fs pw us ++ [(fs[us.length].1, pw[us.length].2.take fs[us.length].2.length), (x, pw[us.length].2)]
  | f :: fs, q :: pw, [], x, h, h' => by
    cases fs <;> cases pw <;> simp [rpOf]
  | f :: fs, q :: pw, u :: us, x, h, h' => by
    have := rpOf_snoc fs pw us x (by simpa using h) (by simpa using h')
    simp only [List.cons_append, rpOf, this]
    simp
/-- in the end the rows read alike -/
theorem rp_all {κ : Nat → Nat} {w : World} : ∀ (fs : List (Value × List Tk)) (pw : List (Nat × List Tk)) (us : List Value), us.length = fs.length → pw.length = fs.length → (∀ p ∈ rpOf fs pw us, Rl κ w p.1 p.2) → ∀ i (h : i < (msOf fs pw).length) (h1 : i < (mxOf fs us).length), Rl κ w (mxOf fs us)[i] (msOf fs pw)[i]
  | [], _, _, _, _, _, i, h, h1 => by simp [msOf] at h
  | f :: fs, q :: pw, u :: us, e1, e2, hr, i, h, h1 => by
    match i with
    | 0 => exact hr (f.1, q.2.take f.2.length) (by simp [rpOf])
    | 1 => exact hr (u, q.2) (by simp [rpOf])
    | i + 2 =>
      have := rp_all fs pw us (by simpa using e1) (by simpa using e2) (fun p hp => hr p (by simp [rpOf, hp])) i (by simpa [msOf] using h) (by simpa [mxOf] using h1)
      simpa [mxOf, msOf] using this
theorem BlT.rl {κ : Nat → Nat} {w : World} {q n : Nat} {W : List Tk} (h : BlT w q W) (hk : κ q = 6) (hn : n ≤ W.length) (hW : W.length ≤ 16777216) : Rl κ w (.slice (some ⟨q, 0, none⟩) n W.length) (W.take n) := by
  have hl : (W.take n).length = n := by rw [List.length_take, Nat.min_eq_left hn]
  refine ⟨_, _, by rw [hl], by omega, by omega, .inr ⟨q, rfl, hk⟩, ?_⟩
  have h2 := h.rd
  rcases h2 with h2 | ⟨g, e, hg, hc⟩
  · exact .inl (by rw [h2]; simp)
  · refine .inr ⟨g, e, hg, fun j hj => ?_⟩
    have := hc j (by omega)
    simpa using this
theorem zs_all {κ : Nat → Nat} {w : World} : ∀ (fs : List (Value × List Tk)) (pw : List (Nat × List Tk)), pw.length = fs.length → (∀ p ∈ pw, BlT w p.1 p.2 ∧ κ p.1 = 6) → (∀ p ∈ pw, p.2.length ≤ 16777216) → (∀ i (h : i < fs.length) (h' : i < pw.length), fs[i].2.length ≤ pw[i].2.length) → ∀ i (h : i < (msOf fs pw).length) (h1 : i < (zsOf fs pw).length), Rl κ w (zsOf fs pw)[i] (msOf fs pw)[i]
  | [], _, _, _, _, _, i, h, h1 => by simp [msOf] at h
  | f :: fs, q :: pw, e2, hr, hb, hl, i, h, h1 => by
    have hq := hr q (by simp)
    have h0 : f.2.length ≤ q.2.length := hl 0 (by simp) (by simp)
    have hW := hb q (by simp)
    match i with
    | 0 => exact hq.1.rl hq.2 h0 hW
    | 1 =>
      have := hq.1.rl hq.2 (n := q.2.length) (Nat.le_refl _) hW
      rw [List.take_length] at this
      exact this
    | i + 2 =>
      have := zs_all fs pw (by simpa using e2) (fun p hp => hr p (by simp [hp])) (fun p hp => hb p (by simp [hp])) (fun i h h' => by have := hl (i + 1) (by simp; omega) (by simp; omega); simpa using this) i (by simpa [msOf] using h) (by simpa [zsOf] using h1)
      simpa [zsOf, msOf] using this

end Go.Proofs.Ytoifmiloaefanaa
