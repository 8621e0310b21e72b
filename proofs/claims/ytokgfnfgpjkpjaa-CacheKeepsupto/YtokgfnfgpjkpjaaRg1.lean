/-
  Package cache: the ring's steps.
-/
import Derived.Test.YtokgfnfgpjkpjaaRg0
namespace Go.Proofs.Ytokgfnfgpjkpjaa
open Go.RowKit

theorem last_form : ∀ (r : Nat) (A : List Nat), ∃ P' p, r :: A = P' ++ [p]
  | r, [] => ⟨[], r, rfl⟩
  | r, a :: t => by
    obtain ⟨P, p, h⟩ := last_form a t
    exact ⟨r :: P, p, by rw [h]; rfl⟩
theorem Rg.unl {f : Nat → En} {r e : Nat} {A B : List Nat} (h : Rg f r (A ++ e :: B)) : Rg (unl f e) r (A ++ B) ∧ ((f e).bf = r ∨ (f e).bf ∈ A) ∧ ((f e).af = r ∨ (f e).af ∈ B) := by
  obtain ⟨hn, hl⟩ := h
  obtain ⟨P', p, hP⟩ := last_form r A
  obtain ⟨a, S', hS⟩ : ∃ a S', B ++ [r] = a :: S' := by
    cases B with
    | nil => exact ⟨r, [], rfl⟩
    | cons x t => exact ⟨x, t ++ [r], rfl⟩
  have e1 : r :: (A ++ e :: B) ++ [r] = P' ++ p :: (e :: (a :: S')) := by
    rw [← hS]
    have : r :: (A ++ e :: B) ++ [r] = (r :: A) ++ (e :: (B ++ [r])) := by simp
    rw [this, hP]
    simp
  rw [e1, Lk_app] at hl
  obtain ⟨l1, h1, h2, h3, h4, l3⟩ := hl
  have hn2 : ((r :: A) ++ e :: B).Nodup := by simpa using hn
  obtain ⟨n1, n2, n3⟩ := List.nodup_append.1 hn2
  have nB : B.Nodup := (List.nodup_cons.1 n2).2
  have hrA : r ∉ A := (List.nodup_cons.1 n1).1
  have hpm : p ∈ r :: A := by rw [hP]; simp
  have hpP : p ∉ P' := by
    rw [hP] at n1
    intro hp
    exact (List.nodup_append.1 n1).2.2 p hp p (by simp) rfl
  have hpB : p ∉ B := fun hp => n3 p hpm p (by simp [hp]) rfl
  have haB : a = r ∨ a ∈ B := by
    cases B with
    | nil => simp at hS; exact .inl hS.1.symm
    | cons x t => simp at hS; exact .inr (by simp [hS.1])
  have haA : a ∉ A := by
    rcases haB with e | e
    · rw [e]; exact hrA
    · exact fun ha => n3 a (by simp [ha]) a (by simp [e]) rfl
  have haS : a ∉ S' := by
    cases B with
    | nil => simp at hS; simp [hS.2]
    | cons x t =>
      simp at hS
      obtain ⟨rfl, rfl⟩ := hS
      simp only [List.mem_append, List.mem_singleton, not_or]
      exact ⟨(List.nodup_cons.1 nB).1, fun e => n3 r (by simp) r (by simp [e]) rfl⟩
  have hdl : (a :: S').dropLast = B := by rw [← hS]; simp
  refine ⟨⟨?_, ?_⟩, ?_, ?_⟩
  · have : (r :: (A ++ B)).Nodup := by
      have h5 : ((r :: A) ++ B).Nodup := List.nodup_append.2 ⟨n1, nB, fun x hx y hy => n3 x hx y (by simp [hy])⟩
      simpa using h5
    exact this
  · have e2 : r :: (A ++ B) ++ [r] = P' ++ p :: (a :: S') := by
      rw [← hS]
      have : r :: (A ++ B) ++ [r] = (r :: A) ++ (B ++ [r]) := by simp
      rw [this, hP]
      simp
    rw [e2, Lk_app]
    refine ⟨l1.congr (fun x hx => ?_) (fun y hy => ?_), ?_, ?_, l3.congr (fun x hx => ?_) (fun y hy => ?_)⟩
    · rw [unl_af, h2, if_neg (fun e => hpP (by simp at hx; rw [← e]; exact hx))]
    · rw [unl_bf, h3, if_neg (fun e => haA (by rw [← hP] at hy; simp at hy; rw [← e]; exact hy))]
    · rw [unl_af, h2, if_pos rfl, h3]
    · rw [unl_bf, h3, if_pos rfl, h2]
    · rw [unl_af, h2, if_neg (fun e => hpB (by rw [hdl] at hx; rw [← e]; exact hx))]
    · rw [unl_bf, h3, if_neg (fun e => haS (by simp at hy; rw [← e]; exact hy))]
  · rw [h2]; simpa using hpm
  · rw [h3]; exact haB
theorem Rg.lnk {f : Nat → En} {r e : Nat} {M : List Nat} (h : Rg f r M) (he : e ∉ r :: M) : Rg (lnk f e r) r (M ++ [e]) := by
  obtain ⟨hn, hl⟩ := h
  obtain ⟨Q', z, hQ⟩ := last_form r M
  have e1 : r :: M ++ [r] = Q' ++ z :: [r] := by
    have : r :: M ++ [r] = (r :: M) ++ [r] := rfl
    rw [this, hQ]
    simp
  rw [e1, Lk_app] at hl
  obtain ⟨l1, h1, h2, _⟩ := hl
  have hrM : r ∉ M := (List.nodup_cons.1 hn).1
  have hzm : z ∈ r :: M := by rw [hQ]; simp
  have hze : e ≠ z := fun e => he (by rw [e]; exact hzm)
  have her : e ≠ r := fun e => he (by simp [e])
  have hzQ : z ∉ Q' := by
    rw [hQ] at hn
    intro hz
    exact (List.nodup_append.1 hn).2.2 z hz z (by simp) rfl
  refine ⟨?_, ?_⟩
  · have h5 : ((r :: M) ++ [e]).Nodup := List.nodup_append.2 ⟨hn, by simp, fun x hx y hy => by simp at hy; rw [hy]; exact fun e => he (by rw [← e]; exact hx)⟩
    simpa using h5
  · have e2 : r :: (M ++ [e]) ++ [r] = Q' ++ z :: (e :: [r]) := by
      have : r :: (M ++ [e]) ++ [r] = (r :: M) ++ [e, r] := by simp
      rw [this, hQ]
      simp
    rw [e2, Lk_app]
    refine ⟨l1.congr (fun x hx => ?_) (fun y hy => ?_), ?_, ?_, ?_, ?_, trivial⟩
    · have hxQ : x ∈ Q' := by simpa using hx
      rw [lnk_af, h2, if_neg (fun e => hzQ (by rw [← e]; exact hxQ)), if_neg (fun e => he (by rw [hQ, ← e]; simp [hxQ]))]
    · rw [← hQ] at hy
      have hyM : y ∈ M := by simpa using hy
      rw [lnk_bf, if_neg (fun e => hrM (by rw [← e]; exact hyM)), if_neg (fun e => he (by rw [← e]; simp [hyM]))]
    · rw [lnk_af, h2, if_pos rfl]
    · rw [lnk_bf, if_neg her, if_pos rfl, h2]
    · rw [lnk_af, h2, if_neg hze, if_pos rfl]
    · rw [lnk_bf, if_pos rfl]
/-- unlinking an entry that is a ring of its own changes nothing -/
theorem unl_alone {f : Nat → En} {e : Nat} (h1 : (f e).bf = e) (h2 : (f e).af = e) : unl f e = f := by
  funext z
  unfold unl
  rw [h1, h2]
  by_cases hz : z = e
  · subst hz
    rw [setBf_at, setAf_at]
    cases hf : f z with
    | mk a d b c => rw [hf] at h1 h2; simp_all
  · rw [setBf_ne _ hz, setAf_ne _ hz]
theorem Rg.first {f : Nat → En} {r e : Nat} {B : List Nat} (h : Rg f r (e :: B)) : (f r).af = e := h.2.1
theorem Rg.none {f : Nat → En} {r : Nat} (h : Rg f r []) : (f r).af = r := h.2.1
theorem Rg.congr {f g : Nat → En} {r : Nat} {es : List Nat} (h : Rg f r es) (hg : ∀ x ∈ r :: es, (g x).af = (f x).af ∧ (g x).bf = (f x).bf) : Rg g r es :=
  ⟨h.1, h.2.congr (fun x hx => (hg x (by rw [show r :: es ++ [r] = (r :: es) ++ [r] from rfl, List.dropLast_concat] at hx; exact hx)).1) (fun y hy => (hg y (by simp at hy; rcases hy with hy | hy; exact List.mem_cons_of_mem _ hy; rw [hy]; simp)).2)⟩

end Go.Proofs.Ytokgfnfgpjkpjaa
