/-
  heap.up.
-/
import Derived.Test.YtajnokkmpjdliaaHe2
namespace Go.Proofs.Ytajnokkmpjdliaa
open Go.RowKit

/-- what up leaves -/
def UpQ (B g c Lb : Nat) (l : List Int) (w : World) (e : Ending) (w' : World) : Prop := e = .returned (.tuple #[]) ∧ ∃ l' : List Int, l'.length = l.length ∧ Hp B w' Lb (.slice (some ⟨g, 0, none⟩) l.length c) l' ∧ IsH l.length l' ∧ l'.Perm l ∧ But (fun k => k = g) w w'

set_option maxRecDepth 100000 in
set_option maxHeartbeats 4000000 in
theorem up_any (B g c j0 Lb : Nat) (l : List Int) (hj : j0 < l.length) (hl : l.length ≤ 1048576) (w : World) (h : Hp B w Lb (.slice (some ⟨g, 0, none⟩) l.length c) l) (hd : UpH l.length j0 l) :
    Calls Try.prog 41 #[.iface 65 (.pointer (some ⟨Lb, 0, none⟩)), .int .i64 (j0 : Int)] w (UpQ B g c Lb l w) := by
  have HH := hid h
  have HD := hid hd
  have HL := hid hl
  have HN := hid hj
  clear h hd hl hj
  go_enter Try.func41, Try.ntmps41
  go_wp2_with fail
  go_loopw [1] (fun iv wr => ∃ (j : Nat) (l1 : List Int), iv = .int .i64 (j : Int) ∧ j < l.length ∧ l1.length = l.length ∧ Hp B wr Lb (.slice (some ⟨g, 0, none⟩) l.length c) l1 ∧ UpH l.length j l1 ∧ l1.Perm l ∧ But (fun k => k = g) w wr) (fun iv _ => (intOf iv).toNat)
  case atStart => exact ⟨j0, l, rfl, HN.out, rfl, HH.out, HD.out, List.Perm.refl _, But.refl _ _⟩
  case round =>
    obtain ⟨j, l1, rfl, hj, e1, hp, hd, hpm, hb⟩ := hrel
    have hlen := HL.out
    by_cases q : j = 0
    · subst q
      have HF : Hid (l1.length = l.length ∧ Hp B wr Lb (.slice (some ⟨g, 0, none⟩) l.length c) l1 ∧ IsH l.length l1 ∧ l1.Perm l ∧ But (fun k => k = g) w wr) := ⟨e1, hp, hd.top, hpm, hb⟩
      clear hd hp hpm hb hj
      go_wp2_with fail
      go_end0
      exact ⟨rfl, l1, HF.out⟩
    · obtain ⟨i, hi⟩ : ∃ i, i = (j - 1) / 2 := ⟨_, rfl⟩
      have hq : ((j : Int) - 1).tdiv 2 = (i : Int) := by
        rw [Int.tdiv_eq_ediv_of_nonneg (by omega)]
        omega
      have hne : ¬ (i : Int) = (j : Int) := by omega
      have hij : i < j := by omega
      have HP : Hid (gt l1 i = gt l1 ((j - 1) / 2)) := by rw [hi]; rfl
      have HLs : Hid (wr.cell? ⟨Lb, 0, none⟩ = some (.slice (some ⟨g, 0, none⟩) l.length c) ∧ Calls Try.prog 59 #[.slice (some ⟨g, 0, none⟩) l.length c, .int .i64 (j : Int), .int .i64 (i : Int)] wr fun e w' => e = .returned (.bool (decide (gt l1 j < gt l1 i))) ∧ Below wr.heap.size wr w') := by
        refine ⟨hp.cell, ?_⟩
        rw [← e1] at hp ⊢
        exact Less_any g l1.length c j i l1 (by omega) (by omega) wr (fun k hk => getD_list l1 g wr hp.row k hk)
      have HSw : Hid (∀ wi, Below wr.heap.size wr wi → wi.cell? ⟨Lb, 0, none⟩ = some (.slice (some ⟨g, 0, none⟩) l.length c) ∧ (gt l1 j < gt l1 i → Calls Try.prog 62 #[.slice (some ⟨g, 0, none⟩) l.length c, .int .i64 (i : Int), .int .i64 (j : Int)] wi fun e w' => e = .returned (.tuple #[]) ∧ ((sw l1 i j).length = l.length ∧ Hp B w' Lb (.slice (some ⟨g, 0, none⟩) l.length c) (sw l1 i j) ∧ UpH l.length i (sw l1 i j) ∧ (sw l1 i j).Perm l ∧ But (fun k => k = g) w w'))) := fun wi hbi => by
        have hp2 := hp.next hbi
        have hbi2 : But (fun k => k = g) wr wi := But.of_below hbi
        refine ⟨hp2.cell, fun hlt => ?_⟩
        have st := hd.step (by omega) hj (by omega) (by rw [← HP.out]; exact hlt)
        rw [← hi] at st
        rw [← e1] at hp2
        refine Calls.mono (by rw [← e1]; exact Swap_hp B g c i j l1 (by omega) (by omega) Lb wi hp2) ?_
        rintro e w' ⟨he, h1, h2⟩
        rw [e1] at h1
        exact ⟨he, (sw_len _ _ _).trans e1, h1, st, (sw_perm l1 (by omega) (by omega)).trans hpm, (hb.trans hbi2).trans h2⟩
      have HDn : Hid (∀ wi, Below wr.heap.size wr wi → ¬ gt l1 j < gt l1 i → l1.length = l.length ∧ Hp B wi Lb (.slice (some ⟨g, 0, none⟩) l.length c) l1 ∧ IsH l.length l1 ∧ l1.Perm l ∧ But (fun k => k = g) w wi) := fun wi hbi hlt => ⟨e1, hp.next hbi, hd.done (by rw [← HP.out]; omega), hpm, hb.trans (But.of_below hbi)⟩
      clear hd hp hpm hb hi
      by_cases p : gt l1 j < gt l1 i
      · have HPP := hid p
        clear p
        go_wp2_with fail
        rw [m59 _ IsM59, load66 _ _ _ _ HLs.out.1]
        go_wp2_with fail
        go_at_call 59
        refine Calls.mono HLs.out.2 ?_
        rintro e w3 ⟨rfl, hb3⟩
        have HB3 := hid hb3
        clear hb3
        rw [decide_eq_true HPP.out]
        go_wp2_with fail
        rw [m62 _ IsM62, load66 _ _ _ _ (HSw.out _ HB3.out).1]
        go_wp2_with fail
        go_at_call 62
        refine Calls.mono ((HSw.out _ HB3.out).2 HPP.out) ?_
        rintro e w4 ⟨rfl, hr⟩
        have HR := hid hr
        clear hr
        go_wp2_with fail
        go_roundw
        case rel => exact ⟨i, _, rfl, by omega, HR.out⟩
        case measure => simp [intOf]; omega
      · have HPP : Hid (gt l1 i ≤ gt l1 j) := by unfold Hid; omega
        clear p
        go_wp2_with fail
        rw [m59 _ IsM59, load66 _ _ _ _ HLs.out.1]
        go_wp2_with fail
        go_at_call 59
        refine Calls.mono HLs.out.2 ?_
        rintro e w3 ⟨rfl, hb3⟩
        have HB3 := hid hb3
        clear hb3
        rw [decide_eq_false (show ¬ _ < _ from by have := HPP.out; omega)]
        go_wp2_with fail
        go_end0
        exact ⟨rfl, l1, HDn.out _ HB3.out (by have := HPP.out; omega)⟩
end Go.Proofs.Ytajnokkmpjdliaa
