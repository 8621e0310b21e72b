/-
  arranged's outer state.
-/
import Derived.Test.YtajnokkmpjdliaaAr1b
namespace Go.Proofs.Ytajnokkmpjdliaa
open Go.RowKit Go.Shelf

structure TO (B : Nat) (w : World) (n : Nat) (E : List (Nat × Nat)) (Vb wb Rb Lb : Nat) (out : List Nat) (ov : Value) (ds : List Nat) (ws l : List Int) (av : Option Addr) (M cv : Nat) (W : World) : Prop where
  os : OS n E out ws l
  lm : l.length = M
  ab : AB B w n Vb wb ws W
  ah : AH B Rb Lb wb (.slice av M cv) l W
  ao : AO B wb (.slice av M cv) ov out W
  dd : ∀ D ∈ ds, W.heap[D]? = some (.deferred (some []))
  dB : ∀ D ∈ ds, B ≤ D
  nd : ds.Nodup

theorem map_cast (out : List Nat) : (out.map fun (k : Nat) => (k : Int)).map (Value.int .i64) = out.map fun (k : Nat) => Value.int .i64 (k : Int) := by simp
theorem map_cast_snoc (out : List Nat) (x : Nat) : ((out.map fun (k : Nat) => (k : Int)) ++ [(x : Int)]).map (Value.int .i64) = (out ++ [x]).map fun (k : Nat) => Value.int .i64 (k : Int) := by simp

theorem TO.round {B : Nat} {w : World} {n m : Nat} {E : List (Nat × Nat)} {Vb wb Rb Lb : Nat} {out : List Nat} {ov : Value} {ds : List Nat} {ws l : List Int} {g M cv : Nat} {W : World}
    (h : TO B w n E Vb wb Rb Lb out ov ds ws l (some ⟨g, 0, none⟩) M cv W) (hE : EdOk n E) (hEl : E.length = m) (Gb : Nat) (hM : 0 < M) (W1 : World) (l' : List Int) (hp : Hp B W1 Lb (.slice (some ⟨g, 0, none⟩) l'.length cv) l') (hh : IsH l'.length l') (hpm : l.Perm (gt l 0 :: l')) (hb : But (fun k => k = g ∨ k = Lb) W W1) :
    ∃ x : Nat, gt l 0 = (x : Int) ∧ x < n ∧ out.length + 1 ≤ n ∧ B ≤ W1.heap.size ∧ AH B Rb Lb wb (.slice (some ⟨g, 0, none⟩) l'.length cv) l' W1 ∧ W1.ownsRow B 3 1 ov out.length ((out.map fun (k : Nat) => (k : Int)).map (Value.int .i64)) ∧
      ∀ (go co : Nat) (W4 : World), W4.ownsRow B 3 1 (.slice (some ⟨go, 0, none⟩) (out.length + 1) co) (out.length + 1) (((out.map fun (k : Nat) => (k : Int)) ++ [(x : Int)]).map (Value.int .i64)) → But (fun k => some k = ov.ownBlock) W1 W4 → (ov.ownBlock = some go ∨ W1.heap.size ≤ go) →
        ∀ (W5 : World), W5 = (W4.alloc (.cells #[.pointer (some ⟨Gb, 0, none⟩)] 43)).alloc (.cells #[.int .i64 (x : Int)] 3) → ∀ o1 o2 : Obj, TS B W5.heap.size w n m E Gb Vb wb Rb Lb W4.heap.size x (out ++ [x]) (.slice (some ⟨go, 0, none⟩) (out.length + 1) co) ds (chn E x m) ws l' (some ⟨g, 0, none⟩) l'.length cv ((W5.alloc o1).alloc o2) := by
  obtain ⟨x, hx, hxn, hIS⟩ := h.os.pop hE (by rw [h.lm]; exact hM) rfl hpm hh
  rw [hEl] at hIS
  have hlen := hIS.kn.len
  rw [List.length_append, List.length_singleton] at hlen
  have hv := h.ab.vb
  have hw := h.ab.wk
  unfold Blk at hw
  have hr := h.ah.rb
  have hl := h.ah.hp.box
  obtain ⟨_, hglt, cur, hgc⟩ := own_blk h.ah.hp.row (g := g) rfl
  have gV : g ≠ Vb := fun e => by rw [e, hv] at hgc; simp at hgc
  have gR : g ≠ Rb := fun e => by rw [e, hr] at hgc; simp at hgc
  have gL : g ≠ Lb := fun e => by rw [e, hl] at hgc; simp at hgc
  have gw : g ≠ wb := fun e => h.ah.ne (by rw [← e]; rfl)
  have LV : Lb ≠ Vb := fun e => by rw [e, hv] at hl; simp at hl
  have LR : Lb ≠ Rb := fun e => by rw [e, hr] at hl; simp at hl
  have Lw : Lb ≠ wb := fun e => by rw [e, hw] at hl; simp at hl
  have hgB : B ≤ g := (own_blk h.ah.hp.row (g := g) rfl).1
  have hA1 : AB B w n Vb wb ws W1 := h.ab.but hb (fun k hk e => by have := h.ah.hL; rcases e with e | e <;> omega) (fun e => by rcases e with e | e; exact gV e.symm; exact LV e.symm) (fun e => by rcases e with e | e; exact gw e.symm; exact Lw e.symm)
  have hH1 : AH B Rb Lb wb (.slice (some ⟨g, 0, none⟩) l'.length cv) l' W1 := ⟨(hb.block _ h.ah.rlt (fun e => by rcases e with e | e; exact gR e.symm; exact LR e.symm)).trans hr, hp, h.ah.hR, h.ah.hL, by simp only [Value.ownBlock]; intro e; exact gw (by simpa using e)⟩
  have oL : ov.ownBlock ≠ some Lb := fun e => by
    obtain ⟨_, _, cur, hh⟩ := own_blk h.ao.ow e
    rw [hl] at hh
    simp at hh
  have hO1 : AO B wb (.slice (some ⟨g, 0, none⟩) M cv) ov out W1 := h.ao.but hb (fun g' q e => by
    rcases e with e | e
    · exact h.ao.nl g' q (by rw [e]; rfl)
    · exact oL (by rw [q, e]))
  have hd1 : ∀ D ∈ ds, W1.heap[D]? = some (.deferred (some [])) := fun D hD => by
    have h9 := h.dd D hD
    refine (hb.block _ (Array.getElem?_eq_some_iff.1 h9).1 (fun e => ?_)).trans h9
    rcases e with e | e
    · rw [e, hgc] at h9; simp at h9
    · rw [e, hl] at h9; simp at h9
  have hB1 : B ≤ W1.heap.size := by have := h.ab.vlt; have := h.ab.hV; have := hb.size; omega
  refine ⟨x, hx, hxn, hlen, hB1, hH1, by rw [map_cast]; exact hO1.ow, fun go co W4 hrow hb4 hgo W5 hW5 o1 o2 => ?_⟩
  rw [map_cast_snoc] at hrow
  have oV : ∀ g', ov.ownBlock = some g' → g' ≠ Vb ∧ g' ≠ wb ∧ g' ≠ Rb ∧ g' ≠ Lb ∧ g' ≠ g := fun g' q => by
    obtain ⟨_, _, cur', hh⟩ := own_blk h.ao.ow q
    refine ⟨fun e => ?_, fun e => h.ao.ne (by rw [q, e]), fun e => ?_, fun e => oL (by rw [q, e]), fun e => h.ao.nl g' q (by rw [e]; rfl)⟩
    · rw [e, hv] at hh; simp at hh
    · rw [e, hr] at hh; simp at hh
  have nX : ∀ k, (∀ g', ov.ownBlock = some g' → k ≠ g') → ¬ (some k = ov.ownBlock) := fun k q e => q k e.symm rfl
  have hA4 := hA1.but hb4 (fun k hk => nX k (fun g' q => by have := (own_blk h.ao.ow q).1; omega)) (nX _ (fun g' q e => (oV g' q).1 e.symm)) (nX _ (fun g' q e => (oV g' q).2.1 e.symm))
  have hH4 := hH1.but hb4 (nX _ (fun g' q e => (oV g' q).2.2.1 e.symm)) (nX _ (fun g' q e => (oV g' q).2.2.2.1 e.symm)) (fun g2 q2 => nX _ (fun g' q e => by
    simp [Value.ownBlock] at q2
    exact (oV g' q).2.2.2.2 (by rw [← e, q2])))
  have hd4 : ∀ D ∈ ds, W4.heap[D]? = some (.deferred (some [])) := fun D hD => by
    have h9 := hd1 D hD
    refine (hb4.block _ (Array.getElem?_eq_some_iff.1 h9).1 (nX _ (fun g' q e => ?_))).trans h9
    obtain ⟨_, _, cur', hh⟩ := own_blk hO1.ow q
    rw [← e, h9] at hh
    simp at hh
  have goN : go ≠ wb ∧ go ≠ g := by
    rcases hgo with hgo | hgo
    · exact ⟨(oV go hgo).2.1, (oV go hgo).2.2.2.2⟩
    · have h1 := hA1.wk.lt
      have h2 := (own_blk hH1.hp.row (g := g) rfl).2.1
      exact ⟨by omega, by omega⟩
  have hO4 : AO B wb (.slice (some ⟨g, 0, none⟩) l'.length cv) (.slice (some ⟨go, 0, none⟩) (out.length + 1) co) (out ++ [x]) W4 := by
    refine ⟨by rw [List.length_append, List.length_singleton]; exact hrow, by simp only [Value.ownBlock]; intro e; exact goN.1 (by simpa using e), fun g' q => ?_⟩
    simp only [Value.ownBlock] at q ⊢
    intro e
    exact goN.2 (by simp at q e; rw [q, e])
  have s5 : W5.heap.size = W4.heap.size + 2 := by rw [hW5]; simp
  have b5 : Below W4.heap.size W4 ((W5.alloc o1).alloc o2) := by
    rw [hW5]
    exact (((below1 _ _).trans ((below1 _ _).mono (by simp))).trans ((below1 _ _).mono (by simp; omega))).trans ((below1 _ _).mono (by simp; omega))
  have hg0 : W5.heap[W4.heap.size]? = some (.cells #[.pointer (some ⟨Gb, 0, none⟩)] 43 (0, 0)) := by
    rw [hW5]
    exact ((below1 _ _).block _ (by simp)).trans (heap_new W4 _)
  have ht0 : W5.heap[W4.heap.size + 1]? = some (.cells #[.int .i64 (x : Int)] 3 (0, 0)) := by
    rw [hW5]
    have := heap_new (W4.alloc (.cells #[.pointer (some ⟨Gb, 0, none⟩)] 43)) (.cells #[.int .i64 (x : Int)] 3)
    rwa [World.size_alloc] at this
  have b6 : Below W5.heap.size W5 ((W5.alloc o1).alloc o2) := (below1 _ _).trans ((below1 _ _).mono (by simp))
  have hgo4 := (own_blk hrow (g := go) rfl).2.1
  have hg4 := (own_blk hH4.hp.row (g := g) rfl).2.1
  have hV4 := hA4.vlt
  have hw4 := hA4.wk.lt
  have hR4 := hH4.rlt
  have hL4 := hH4.hp.lt
  have hB4 : B ≤ W4.heap.size := by have := hb4.size; omega
  refine ⟨hIS, rfl, hA4.next b5, hH4.next b5, hO4.next b5, (b6.block _ (by omega)).trans hg0, (b6.block _ (by omega)).trans ht0, fun g' q => ?_, fun g' q => ?_, fun D hD => (b5.block _ (Array.getElem?_eq_some_iff.1 (hd4 D hD)).1).trans (hd4 D hD), ⟨by omega, by omega, by omega, by omega, by omega, hB4, by omega⟩, fun D hD => ⟨by have := (Array.getElem?_eq_some_iff.1 (hd4 D hD)).1; omega, h.dB D hD⟩, by omega⟩
  · simp [Value.ownBlock] at q
    omega
  · simp [Value.ownBlock] at q
    omega
theorem TS.out {B D1 : Nat} {w : World} {n m : Nat} {E : List (Nat × Nat)} {Gb Vb wb Rb Lb Bg x : Nat} {out : List Nat} {ov : Value} {ds : List Nat} {ws l : List Int} {av : Option Addr} {M cv : Nat} {W : World} (h : TS B D1 w n m E Gb Vb wb Rb Lb Bg x out ov ds [] ws l av M cv W) (hd : W.heap[D1]? = some (.deferred (some []))) (hn : ds.Nodup) : TO B w n E Vb wb Rb Lb out ov (D1 :: ds) ws l av M cv W := by
  refine ⟨h.is.done, h.lm, h.ab, h.ah, h.ao, fun D hD => ?_, fun D hD => ?_, List.nodup_cons.2 ⟨fun e => by have := (h.k2 D1 e).1; omega, hn⟩⟩
  · rcases List.mem_cons.1 hD with e | e
    · rw [e]; exact hd
    · exact h.dd D e
  · rcases List.mem_cons.1 hD with e | e
    · rw [e]; exact h.k1.2.2.2.2.2.2
    · exact (h.k2 D e).2
end Go.Proofs.Ytajnokkmpjdliaa
