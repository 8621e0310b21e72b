/-
  The heap's Pop; heap.Pop.
-/
import Derived.Test.YtajnokkmpjdliaaHe3
namespace Go.Proofs.Ytajnokkmpjdliaa
open Go.RowKit

set_option maxRecDepth 100000 in
set_option maxHeartbeats 1000000 in
theorem Pop60_any (g c k Lb : Nat) (x : Int) (w : World) (h1 : w.cell? ⟨Lb, 0, none⟩ = some (.slice (some ⟨g, 0, none⟩) (k + 1) c)) (h2 : w.cell? ⟨g, k, none⟩ = some (.int .i64 x)) (f1 : w.frozen? ⟨Lb, 0, none⟩ = false) (hc : k + 1 ≤ c) (hk : k + 1 ≤ 1048576) :
    Calls Try.prog 60 #[.pointer (some ⟨Lb, 0, none⟩)] w fun e w' => e = .returned (.iface 3 (.int .i64 x)) ∧ w' = w.setCell ⟨Lb, 0, none⟩ (.slice (some ⟨g, 0, none⟩) k c) := by
  have e1 : (((k + 1 : Nat) : Int) - 1) = (k : Int) := by omega
  have e2 : wrap64 ((k : Int) + 1 - 1) = (k : Int) := by rw [w64 _ (by omega)]; omega
  have q2 : (k : Int) < ((k + 1 : Nat) : Int) := by omega
  have q3 : (k : Int) ≤ (c : Int) := by omega
  have q4 : ¬ (k : Int) < 0 := by omega
  go_enter Try.func60, Try.ntmps60
  go_wp2_with fail
  go_ret
  exact ⟨rfl, rfl⟩

theorem row_short {B : Nat} {w : World} {g n c : Nat} {l : List Int} {x : Int} (h : w.ownsRow B 3 1 (.slice (some ⟨g, 0, none⟩) n c) n ((l ++ [x]).map (Value.int .i64))) :
    w.ownsRow B 3 1 (.slice (some ⟨g, 0, none⟩) l.length c) l.length (l.map (Value.int .i64)) := by
  obtain ⟨h1, h2⟩ := h
  simp at h1
  refine ⟨by simp, ?_⟩
  rcases h2 with ⟨h2, _⟩ | ⟨g', cap, cur, e, hb, hh, hc, hz, hs, ht⟩
  · cases h2
  · simp at e
    obtain ⟨rfl, rfl⟩ := e
    refine .inr ⟨g, c, cur, rfl, hb, hh, by omega, hz, hs, ?_⟩
    have : (cur.toList.take (n * 1)).take l.length = l.map (Value.int .i64) := by rw [ht]; simp
    rw [← this, List.take_take]
    congr 1
    omega
theorem row_frame {B : Nat} {w w' : World} {g n c : Nat} {xs : List Value} (h : w.ownsRow B 3 1 (.slice (some ⟨g, 0, none⟩) n c) n xs) (hk : w'.heap[g]? = w.heap[g]?) : w'.ownsRow B 3 1 (.slice (some ⟨g, 0, none⟩) n c) n xs :=
  own_keep h fun g' hg => by simp [Value.ownBlock] at hg; subst hg; exact hk
theorem last_of (l : List Int) {k : Nat} (h : l.length = k + 1) : ∃ m : List Int, l = m ++ [gt l k] ∧ m.length = k := by
  refine ⟨l.take k, ?_, by simp [h]⟩
  rw [gt_of l (by omega)]
  have := List.take_append_getElem (l := l) (i := k) (by omega)
  rw [this]
  simp [← h]

/-- what heap.Pop leaves -/
def PoQ (B g c Lb : Nat) (l : List Int) (w : World) (e : Ending) (w' : World) : Prop := e = .returned (.iface 3 (.int .i64 (gt l 0))) ∧ ∃ m : List Int, m.length + 1 = l.length ∧ Hp B w' Lb (.slice (some ⟨g, 0, none⟩) m.length c) m ∧ IsH m.length m ∧ l.Perm (gt l 0 :: m) ∧ But (fun k => k = g ∨ k = Lb) w w'

set_option maxRecDepth 100000 in
set_option maxHeartbeats 4000000 in
theorem Pop_any (B g c k Lb : Nat) (l : List Int) (hk : l.length = k + 1) (hl : l.length ≤ 1048576) (w : World) (h : Hp B w Lb (.slice (some ⟨g, 0, none⟩) (k + 1) c) l) (hi : IsH l.length l) :
    Calls Try.prog 34 #[.iface 65 (.pointer (some ⟨Lb, 0, none⟩))] w (PoQ B g c Lb l w) := by
  obtain ⟨PO, hPO⟩ : ∃ PO, PO = PoQ B g c Lb l w := ⟨_, rfl⟩
  rw [← hPO]
  have hne : Lb ≠ g := fun e => by
    have h2 := h.row
    rw [hk] at h2
    obtain ⟨_, _, cur, hh⟩ := own_blk h2 (g := g) rfl
    rw [← e, h.box] at hh
    simp at hh
  have HL : Hid (w.cell? ⟨Lb, 0, none⟩ = some (.slice (some ⟨g, 0, none⟩) (k + 1) c)) := h.cell
  have hkk : k ≤ 1048575 := by omega
  have e2 : wrap64 ((k : Int) + 1 - 1) = (k : Int) := by rw [w64 _ (by omega)]; omega
  have HK := hid hk
  have HS : Hid (Calls Try.prog 62 #[.slice (some ⟨g, 0, none⟩) (k + 1) c, .int .i64 0, .int .i64 (k : Int)] w fun e w1 => e = .returned (.tuple #[]) ∧ (Calls Try.prog 39 #[.iface 65 (.pointer (some ⟨Lb, 0, none⟩)), .int .i64 0, .int .i64 (k : Int)] w1 fun e w2 => ((∃ b, e = .returned (.bool b)) ∧ (Calls Try.prog 60 #[.pointer (some ⟨Lb, 0, none⟩)] w2 fun e w3 => e = .returned (.iface 3 (.int .i64 (gt l 0))) ∧ PO (.returned (.iface 3 (.int .i64 (gt l 0)))) w3)))) := by
    have h' := h
    rw [← hk] at h'
    have := Swap_hp B g c 0 k l (by omega) (by omega) Lb w h'
    rw [hk] at this
    refine this.mono ?_
    rintro e w1 ⟨rfl, hp1, hb1⟩
    refine ⟨rfl, ?_⟩
    obtain ⟨s, hs⟩ : ∃ s, s = sw l 0 k := ⟨_, rfl⟩
    rw [← hs] at hp1
    have hsl : s.length = k + 1 := by rw [hs, sw_len]; exact hk
    have hp1' := hp1
    rw [← hsl] at hp1'
    have hd0 : DnH k 0 s := DnH.start (by rw [← hk]; exact hi) (fun j h1 h2 => by rw [hs]; exact sw_get l (by omega) (by omega) j (by omega) (by omega))
    refine (down_any B g c k Lb s (by omega) (by omega) w1 hp1' hd0).mono ?_
    rintro e w2 ⟨hb, l2, e2, hp2, hh2, hpm2, hfx, hbut2⟩
    refine ⟨hb, ?_⟩
    obtain ⟨m, hm, hml⟩ := last_of l2 (k := k) (by omega)
    have hx : gt l2 k = gt l 0 := by rw [hfx k (Nat.le_refl _), hs, sw_gt l (by omega) (by omega), if_pos rfl]
    rw [hx] at hm
    have hp2r := hp2.row
    have hcc : k + 1 ≤ c := by
      obtain ⟨g9, c9, e9, hc9, _⟩ := row_cells hp2r (by omega)
      simp at e9
      omega
    rw [hsl] at hp2
    refine (Pop60_any g c k Lb (gt l 0) w2 hp2.cell (by
      obtain ⟨g9, c9, e9, hc9, _, _, _, _, hcell⟩ := row_cells hp2r (by omega)
      simp at e9
      rw [e9.1, hcell k (by omega), hx]) (hp2.frozen 0) hcc (by omega)).mono ?_
    rintro e w3 ⟨rfl, rfl⟩
    refine ⟨rfl, ?_⟩
    rw [hPO]
    have hb3 : But (fun k => k = Lb) w2 (w2.setCell ⟨Lb, 0, none⟩ (.slice (some ⟨g, 0, none⟩) k c)) := (But.refl (fun k => k = Lb) w2).setCell (p := ⟨Lb, 0, none⟩) rfl _
    refine ⟨rfl, m, by omega, ⟨?_, ?_⟩, ?_, ?_, ?_⟩
    · rw [hml]
      simp only [World.setCell, Array.getElem?_modify]
      rw [hp2.box]
      simp
    · have h9 : w2.ownsRow B 3 1 (.slice (some ⟨g, 0, none⟩) (k + 1) c) (k + 1) ((m ++ [gt l 0]).map (Value.int .i64)) := by
        have := hp2.row
        rw [e2, hsl] at this
        rw [hm] at this
        exact this
      refine row_frame (row_short h9) (hb3.block g ?_ (fun e => hne e.symm))
      exact (own_blk h9 (g := g) rfl).2.1
    · rw [hml]
      intro j h1 h2
      have := hh2 j h1 h2
      rw [hm] at this
      have e9 : ∀ j, j < m.length → gt (m ++ [gt l 0]) j = gt m j := fun j hj => by
        unfold gt
        rw [List.getD_eq_getElem?_getD, List.getD_eq_getElem?_getD, List.getElem?_append_left hj, ← List.getD_eq_getElem?_getD]
      rw [e9 _ (by omega), e9 _ (by omega)] at this
      exact this
    · have p1 : l2.Perm l := hpm2.trans (by rw [hs]; exact sw_perm l (by omega) (by omega))
      rw [hm] at p1
      exact p1.symm.trans (List.perm_append_comm (l₁ := m) (l₂ := [gt l 0]))
    · exact ((hb1.mono fun _ _ e => .inl e).trans (hbut2.mono fun _ _ e => .inl e)).trans (hb3.mono fun _ _ e => .inr e)
  clear h hi hk hPO
  go_enter Try.func34, Try.ntmps34
  go_wp2_with fail
  rw [m33 _ IsM33, load66 _ _ _ _ HL.out]
  go_wp2_with fail
  go_at_call 33
  refine Calls.mono (Len_any _ _ _ _) ?_
  rintro e w0 ⟨rfl, hw0⟩
  subst hw0
  go_wp2_with fail
  rw [m62 _ IsM62, load66 _ _ _ _ HL.out]
  go_wp2_with fail
  go_at_call 62
  refine Calls.mono HS.out ?_
  rintro e w1 ⟨rfl, h1⟩
  have H1 := hid h1
  clear h1 HS HL
  go_wp2_with fail
  go_at_call 39
  refine Calls.mono H1.out ?_
  rintro e w2 ⟨⟨b, rfl⟩, h2⟩
  have H2 := hid h2
  clear h2 H1
  go_wp2_with fail
  rw [m60 _ IsM60]
  go_wp2_with fail
  go_at_call 60
  refine Calls.mono H2.out ?_
  rintro e w3 ⟨rfl, h3⟩
  have H3 := hid h3
  clear h3 H2
  go_wp2_with fail
  exact H3.out
end Go.Proofs.Ytajnokkmpjdliaa
