import Derived.Test.YtldlejpacgphmaaGreatG33
namespace Go.Proofs.YtldlejpacgphmaaGreat
open Go.RowKit
theorem Jq.monoK {Z : Nat → Prop} {w : World} {j c p room nb K K' fr bl : Nat} {d : Pd} {s : Js} (h : Jq Z w j c p room nb K fr bl d s) (hK : K ≤ K') : Jq Z w j c p room nb K' fr bl d s := by
  obtain ⟨Zc, m, n, D, a, h⟩ := h
  exact ⟨Zc, m, n, D, a, ⟨h.cq.mono (fun _ q => q) hK, h.jb, h.mp, h.am, h.dat, h.non, h.nj, h.nm, h.zj, h.zm, h.sub, h.sz⟩⟩
set_option maxRecDepth 100000 in
set_option maxHeartbeats 4000000 in
theorem holds_any {Z X : Nat → Prop} {w : World} {j c p room nb K fr bl : Nat} {d : Pd} {s : Js} {g hb hc : Nat} {H : List Int} {ta : Option Addr} {tc : Nat} {vs : List Value} {Us : List (List Pm)} {lo : Nat} (hJ : Jq Z w j c p room nb K fr bl d s) (hOn : On d s nb fr bl lo (imgB H) (plainT Us)) (hL : LgW X w g hb hc nb fr bl H ta tc vs Us) (hX : ∀ k, k < w.heap.size → Z k → X k) (hlo : 16 ≤ bl) (hfit : fr + bl ≤ nb) (hK : K + nb < 4611686018427387904) :
    Calls Tryz.prog 34 #[.pointer (some ⟨j, 0, none⟩), .pointer (some ⟨g, 0, none⟩)] w fun e w' => e = .returned (.bool true) ∧ (∃ Z', Jq Z' w' j c p room nb (K + nb) fr bl d s ∧ Gr Z Z' w) ∧ But Z w w' := by
  have hnb := hJ.fits.2.2
  have hpl := hOn.puts hlo hfit hnb
  have hj := hOn.jn hlo hfit hnb
  have hUl : (plainT Us).length = Us.length := by simp [plainT]
  have hUs : Us.length ≤ 1099511627776 := by have := hj.seq; have := hOn.sq; omega
  have HOn := hid hOn
  have hon := hOn.on
  have HL : Hid (∀ w', But Z w w' → LgW X w' g hb hc nb fr bl H ta tc vs Us) := fun w' hb' => hL.but hb' hX X (fun _ _ q => q)
  have HRd : Hid (∀ (Z' : Nat → Prop) (w' : World) (x : Nat), x < nb → homeC nb fr bl (x : Int) = 0 → Jq Z' w' j c p room nb (K + x) fr bl d s → Gr Z Z' w → But Z w w' → Calls Tryz.prog 43 #[.pointer (some ⟨j, 0, none⟩), .int .i64 (x : Int)] w' fun e w'' => ∃ g cp, e = .returned (.tuple #[.slice (some ⟨g, 0, none⟩) 512 cp, .int .i64 0]) ∧ (Own w'' g 512 cp (contT (imgB H) (plainT Us) Us.length x) ∧ Pl.isB (contT (imgB H) (plainT Us) Us.length x)) ∧ (∃ Z'', Jq Z'' w'' j c p room nb (K + (x + 1)) fr bl d s ∧ Gr Z Z'' w) ∧ But Z w w'') := fun Z' w' x hx hh hJ' hg hb' => by
    have hhb : HomeB nb fr bl x := by
      refine ⟨hx, fun q => ?_⟩
      unfold homeC at hh
      rw [if_pos (by omega)] at hh
      cases hh
    refine Calls.mono (Read_home hJ' hfit hon (by omega) (by omega) x hx hh) ?_
    rintro e w'' ⟨g2, cp2, rfl, _, o2, i2, ⟨Z'', j2, gr2, _⟩, b2⟩
    have e2 := HOn.out.read hhb
    rw [hUl] at e2
    rw [e2] at o2 i2
    exact ⟨g2, cp2, rfl, ⟨o2, i2⟩, ⟨Z'', j2, hg.trans gr2 hb'.size⟩, hb'.comp b2 (fun k hk q => hg k hk q)⟩
  have HJ := hid hJ
  clear hJ hOn hL hj hpl hon hX
  go_enter Tryz.func34, Tryz.ntmps34
  go_wp2_with fail
  go_loopw [5] (fun iv wr => ∃ x : Nat, x ≤ nb ∧ iv = .int .i64 (x : Int) ∧ (∃ Z', Jq Z' wr j c p room nb (K + x) fr bl d s ∧ Gr Z Z' w) ∧ But Z w wr) (fun iv _ => nb - (intOf iv).toNat)
  case atStart => exact ⟨0, Nat.zero_le _, rfl, ⟨Z, HJ.out, Gr.refl _ _⟩, But.refl _ _⟩
  case round =>
    clear HJ
    obtain ⟨x, hx, rfl, hjq, hbt⟩ := hrel
    have HB := hid (And.intro hjq hbt)
    have hL1 := HL.out wr hbt
    have HD := hid (refDisk_any hL1.lg hnb)
    have HA := hid (refAt_any hL1.lg hnb hfit (x : Int))
    clear hjq hbt hL1
    go_wp2_with fail
    refine Calls.mono HD.out ?_
    rintro e w1 ⟨rfl, hw1⟩
    rw [hw1]
    clear hw1 HD
    by_cases hxn : x < nb
    · have hx' : (x : Int) < (nb : Int) := by omega
      rcases homeC_cases nb fr bl (x : Int) with hh | hh
      · rw [hh] at HA
        go_wp2_with fail
        refine Calls.mono HA.out ?_
        rintro e w2 ⟨rfl, b2⟩
        have FIN : Hid ((∃ Z', Jq Z' w2 j c p room nb (K + (x + 1)) fr bl d s ∧ Gr Z Z' w) ∧ But Z w w2) := by
          obtain ⟨⟨Z', q1, q2⟩, q3⟩ := HB.out
          exact ⟨⟨Z', (q1.below b2).monoK (by omega), q2⟩, q3.comp (But.of_below b2 (X := fun _ => False)) (fun _ _ q => q.elim)⟩
        clear b2 HB HA hh
        go_wp2
        refine ⟨⟨x + 1, by omega, by go_num, FIN.out.1, FIN.out.2⟩, ?_⟩
        simp [intOf]
        omega
      · rw [hh] at HA
        have HH := hid hh
        clear hh
        go_wp2_with fail
        refine Calls.mono HA.out ?_
        rintro e w2 ⟨rfl, b2⟩
        have HR2 : Hid (Calls Tryz.prog 43 #[.pointer (some ⟨j, 0, none⟩), .int .i64 (x : Int)] w2 fun e w'' => ∃ g cp, e = .returned (.tuple #[.slice (some ⟨g, 0, none⟩) 512 cp, .int .i64 0]) ∧ (Own w'' g 512 cp (contT (imgB H) (plainT Us) Us.length x) ∧ Pl.isB (contT (imgB H) (plainT Us) Us.length x)) ∧ (∃ Z'', Jq Z'' w'' j c p room nb (K + (x + 1)) fr bl d s ∧ Gr Z Z'' w) ∧ But Z w w'') := by
          obtain ⟨⟨Z', q1, q2⟩, q3⟩ := HB.out
          exact HRd.out Z' w2 x hxn HH.out (q1.below b2) q2 (q3.comp (But.of_below b2 (X := fun _ => False)) (fun _ _ q => q.elim))
        clear b2 HB HA
        go_wp2_with fail
        refine Calls.mono HR2.out ?_
        rintro e w3 ⟨g3, cp3, rfl, o3, j3, b3⟩
        have hL3 := HL.out w3 b3
        have HBe := hid (refBehind_any hL3 hnb x hxn Us.length (Nat.le_refl _) hUs)
        have c3 := hL3.lg.c3
        have HO3 := hid (And.intro o3 (And.intro j3 b3))
        have HNm := hid (num_any 0 w3)
        clear HR2 o3 j3 b3 hL3
        obtain ⟨N, hN⟩ : ∃ N, N = Us.length := ⟨_, rfl⟩
        rw [← hN] at c3 HBe
        have HN := hid hN
        clear hN
        go_wp2_with fail
        refine Calls.mono HNm.out ?_
        rintro e w4 ⟨rfl, hw4⟩
        rw [hw4]
        clear hw4 HNm
        go_wp2_with fail
        refine Calls.mono HBe.out ?_
        rintro e w5 ⟨g5, cp5, rfl, hg5, o5, b5⟩
        have HS : Hid (Calls Tryz.prog 16 #[.slice (some ⟨g3, 0, none⟩) 512 cp3, .slice (some ⟨g5, 0, none⟩) 512 cp5] w5 fun e w' => e = .returned (.bool true) ∧ w' = w5) := by
          obtain ⟨⟨o3, i3⟩, _, _⟩ := HO3.out
          rw [HN.out] at o5
          exact SameBytes_eq w5.heap.size _ _ 512 cp3 512 cp5 _ w5 ((o3.keep (b5.block g3 o3.lt)).rd i3) (o5.rd i3)
        have FIN : Hid ((∃ Z', Jq Z' w5 j c p room nb (K + (x + 1)) fr bl d s ∧ Gr Z Z' w) ∧ But Z w w5) := by
          obtain ⟨_, ⟨Z', q1, q2⟩, q3⟩ := HO3.out
          exact ⟨⟨Z', q1.below b5, q2⟩, q3.comp (But.of_below b5 (X := fun _ => False)) (fun _ _ q => q.elim)⟩
        clear HBe o5 b5 hg5 HO3 c3
        go_wp2_with fail
        refine Calls.mono HS.out ?_
        rintro e w6 ⟨rfl, hw6⟩
        rw [hw6]
        clear hw6 HS
        go_wp2
        refine ⟨⟨x + 1, by omega, by go_num, FIN.out.1, FIN.out.2⟩, ?_⟩
        simp [intOf]
        omega
    · have hx' : ¬ (x : Int) < (nb : Int) := by omega
      have hxe : x = nb := by omega
      subst hxe
      clear HA
      go_wp2
      go_ret
      exact ⟨rfl, HB.out.1, HB.out.2⟩
end Go.Proofs.YtldlejpacgphmaaGreat
