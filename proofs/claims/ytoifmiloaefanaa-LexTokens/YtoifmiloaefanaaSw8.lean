/-
  The Shelf: write, by its contract.
-/
import Derived.Test.YtoifmiloaefanaaSw5
namespace Go.Proofs.Ytoifmiloaefanaa
open Go.RowKit

def rOf (xs ys : List Value) (Ms : List (List Tk)) : List (Value × List Tk) := xs.zip Ms ++ ys.zip Ms
theorem Shf.wst {κ : Nat → Nat} {B s : Nat} {mk tot : Int} {fs : List (Value × List Tk)} {fv hv kv wv : Value} {hs xs ys : List Value} {Ms : List (List Tk)} {w : World} (h : Shf κ B s mk tot fs fv hv kv wv hs xs ys Ms w) : Wst κ B s mk tot fv hv kv wv (fs.map (·.1)) fs xs ys (rOf xs ys Ms) 0 [] w := by
  refine ⟨h.sb, h.ks, h.fr, h.kr, h.wr, fun i _ hi => (h.fl i hi).1, fun p hp => ?_, fun p hp => by simp at hp, h.cut, h.bw⟩
  rcases List.mem_append.1 hp with hp | hp
  · obtain ⟨i, hi, rfl⟩ := List.mem_iff_getElem.1 hp
    rw [List.length_zip] at hi
    rw [List.getElem_zip]
    exact (h.kk i (by omega) (by omega) (by have := h.yl; omega)).1
  · obtain ⟨i, hi, rfl⟩ := List.mem_iff_getElem.1 hp
    rw [List.length_zip] at hi
    rw [List.getElem_zip]
    exact (h.kk i (by omega) (by have := h.xl; omega) (by omega)).2
theorem two_but {wr : World} {s : Nat} {a b : Value} : But (fun g => g = s) wr ((wr.setCell ⟨s, 3, none⟩ a).setCell ⟨s, 4, none⟩ b) := by
  have b1 : But (fun g => g = s) wr (wr.setCell ⟨s, 3, none⟩ a) := set_but _ _ _ _ rfl
  exact b1.setCell (p := ⟨s, 4, none⟩) rfl _
theorem zip_mem {xs : List Value} {Ms : List (List Tk)} {i : Nat} (h1 : i < xs.length) (h2 : i < Ms.length) : (xs[i], Ms[i]) ∈ xs.zip Ms := by
  refine List.mem_iff_getElem.2 ⟨i, by rw [List.length_zip]; omega, by rw [List.getElem_zip]⟩
/-- what write leaves -/
theorem write_any {κ : Nat → Nat} {B s : Nat} {mk : Int} {T : Nat} {fs : List (Value × List Tk)} {fv hv kv wv : Value} {hs xs ys : List Value} {Ms : List (List Tk)} {w : World} (h : Shf κ B s mk (T : Int) fs fv hv kv wv hs xs ys Ms w) (hmk : mk ≤ 1000000000000) (hMs : Ms.length ≤ 900) :
    Calls Try.prog 21 #[.pointer (some ⟨s, 0, none⟩)] w fun e w' => (∃ v, e = .returned v) ∧ ∃ κ' kv' wv' xs' ys' Ms' mk', Shf κ' B s mk' (T : Int) [] (.slice none 0 0) (.slice none 0 0) kv' wv' [] xs' ys' Ms' w' ∧ Frw κ κ' w w' ∧ mk' ≤ mk + 6000000 ∧ Ms'.length ≤ Ms.length + 6 := by
  obtain ⟨fa, fc, hfv⟩ := h.fr.own.form
  obtain ⟨wa, wc, hwv⟩ := h.wr.own.form
  have hbd := h.bd
  have hT : T ≤ 1000000 := by omega
  have hfl3 := hbd.2.2.2.2.1
  have hxl := h.xl
  have hyl := h.yl
  have hst := h.wst
  obtain ⟨F, hF⟩ : ∃ F : Wfix, F = ⟨κ, B, s, mk, T, fv, hv, fs, xs, ys, rOf xs ys Ms, w⟩ := ⟨_, rfl⟩
  have hW1 : W1 F 0 w := by
    rw [hF]
    refine ⟨κ, kv, wv, mk, [], ?_, rfl, Nat.zero_le _, fun p hp => by simp at hp, hbd.1, by simp, Frw.refl _ _⟩
    have e1 : lsOf fs [] = fs := by cases fs <;> rfl
    have e2 : zsOf fs [] = [] := by cases fs <;> rfl
    simp only [e1, e2, List.take_zero]
    have e3 : dpOf [] = [] := rfl
    rw [e3, List.append_nil, List.append_nil]
    exact hst
  rw [hF] at hW1
  rw [List.length_map] at hfv
  refine write_walk ⟨κ, B, s, mk, T, fv, hv, fs, xs, ys, rOf xs ys Ms, w⟩ fa wa fc ys.length wc kv w hfv (by have := h.sb; rw [hwv] at this; exact this) hW1 rfl (by show xs.length ≤ 2000; omega) (by show ys.length ≤ 2000; omega) hfl3 hT (fun i hi => (h.fl i hi).2) (fun i hi => ?_) (by show xs.length = ys.length; omega) hmk _ ?_
  · obtain ⟨a, c, e⟩ := (h.fl i hi).1.own.form
    refine ⟨a, c, e, ?_⟩
    have h9 := (h.fl i hi).1.own
    show fs[i].2.length ≤ c
    rw [e] at h9
    exact owT_cap h9 rfl
  · rintro wr v ⟨κ', kv', wv', mk', pw, us, hst', hus, hpf, hpw, hps, hm0, hm1, hfr⟩
    simp only at hst' hus hpf hpw hps hm1 hfr ⊢
    refine ⟨⟨v, rfl⟩, κ', kv', wv', xs ++ mxOf fs us, ys ++ zsOf fs pw, Ms ++ msOf fs pw, mk', ?_, ?_, by omega, by rw [List.length_append, msOf_len fs pw hpw]; omega⟩
    · obtain ⟨w2, hw2⟩ : ∃ w2, w2 = (wr.setCell ⟨s, 3, none⟩ (.slice none 0 0)).setCell ⟨s, 4, none⟩ (.slice none 0 0) := ⟨_, rfl⟩
      rw [← hw2]
      have b2 : But (fun g => g = s) wr w2 := by rw [hw2]; exact two_but
      have z2 : w2.heap.size = wr.heap.size := by rw [hw2]; simp [World.setCell]
      have o : ∀ t, t ≠ 1 → ∀ g, κ' g = t → ¬ g = s := fun t ht g e q => by rw [q, hst'.ks] at e; omega
      have hml := msOf_len fs pw hpw
      have hxl2 := mxOf_len fs us
      have hzl2 := zsOf_len fs pw (by omega)
      refine ⟨?_, hst'.ks, Row.nil _ _ _ _, Row.nil _ _ _ _, hst'.kr.keep2 b2 (o 4 (by decide)) (fun _ _ e => e), hst'.wr.keep2 b2 (o 5 (by decide)) (fun _ _ e => e), fun i hi => by simp at hi, by simp, fun i hi => by simp at hi, by rw [List.length_append, List.length_append]; omega, by rw [List.length_append, List.length_append]; omega, fun i hi h1 h2 => ?_, fun g hg => by rw [z2]; exact hst'.cut g hg, ?_, by have := hst'.bw; omega⟩
      · rw [hw2]
        exact shelf_set (shelf_set hst'.sb rfl) rfl
      · have kp : ∀ v L, Rl κ' wr v L → Rl κ' w2 v L := fun v L hr => hr.keep2 b2 (o 6 (by decide)) (fun _ _ e => e)
        by_cases q : i < Ms.length
        · rw [List.getElem_append_left (show i < Ms.length from q), List.getElem_append_left (show i < xs.length by omega), List.getElem_append_left (show i < ys.length by omega)]
          refine ⟨kp _ _ (hst'.rl (xs[i], Ms[i]) ?_), kp _ _ (hst'.rl (ys[i], Ms[i]) ?_)⟩
          · exact List.mem_append.2 (.inl (List.mem_append.2 (.inl (zip_mem _ _))))
          · exact List.mem_append.2 (.inl (List.mem_append.2 (.inr (zip_mem _ _))))
        · rw [List.length_append] at hi h1 h2
          rw [List.getElem_append_right (show Ms.length ≤ i by omega), List.getElem_append_right (show xs.length ≤ i by omega), List.getElem_append_right (show ys.length ≤ i by omega)]
          have ex : i - xs.length = i - Ms.length := by omega
          have ey : i - ys.length = i - Ms.length := by omega
          have r1 := rp_all fs pw us (by omega) hpw (fun p hp => hst'.rl p (List.mem_append.2 (.inr hp))) (i - Ms.length) (by omega) (by omega)
          have r2 := zs_all fs pw hpw hst'.qb (fun p hp => by
            obtain ⟨j, hj, rfl⟩ := List.mem_iff_getElem.1 hp
            have h5 := hps j hj (by omega)
            have h6 := (h.fl j (by omega)).2
            omega) (fun j h5 h6 => by have := hps j h6 h5; omega) (i - Ms.length) (by omega) (by omega)
          simp only [ex, ey]
          exact ⟨kp _ _ r1, kp _ _ r2⟩
      · exact ⟨hm0, by omega, hbd.2.2.1, hbd.2.2.2.1, by simp, by rw [List.length_append, hml]; omega⟩
    · refine hfr.trans ⟨?_, fun _ _ e => e⟩
      have b2 : But (fun g => g = s) wr ((wr.setCell ⟨s, 3, none⟩ (.slice none 0 0)).setCell ⟨s, 4, none⟩ (.slice none 0 0)) := two_but
      exact b2.mono (fun g _ e => by rw [e, hst'.ks]; decide)

end Go.Proofs.Ytoifmiloaefanaa
