/-
  CacheReads: the law.
-/
import Derived.Test.YtokgfnfgpjkpjaaCc2
namespace Go.Proofs.Ytokgfnfgpjkpjaa
open Go.RowKit

theorem num_any (x : Int) (w : World) : Calls Try.prog 9 #[.int .i64 x] w fun e w' => e = .returned (.int .i64 x) ∧ w' = w := by
  go_enter Try.func9, Try.ntmps9
  go_wp2
  go_ret
  exact ⟨rfl, rfl⟩
set_option maxRecDepth 100000 in
set_option maxHeartbeats 4000000 in
theorem reads_law {w : World} (bl ro : Int) {a : Option Addr} {n cp : Nat} {L : List CAct} (hS : CScr w.heap.size w a n L) (hn : n ≤ 1048576) :
    Calls Try.prog 5 #[.int .i64 bl, .int .i64 ro, .slice a n cp] w fun e w' => e = .returned (.bool true) ∧ Below w.heap.size w w' := by
  have H1 : Hid (∀ w, Calls Try.prog 6 #[.int .i64 bl, .int .i64 1, .int .i64 64] w fun q w' => q = .returned (.int .i64 (inN 1 64 bl : Int)) ∧ w' = w) := fun w => within_any bl 1 64 (by omega) (by omega) w
  have H2 : Hid (∀ w, Calls Try.prog 6 #[.int .i64 ro, .int .i64 1, .int .i64 4096] w fun q w' => q = .returned (.int .i64 (inN 1 4096 ro : Int)) ∧ w' = w) := fun w => within_any ro 1 4096 (by omega) (by omega) w
  have lo := inN_lo 1 64 bl
  have hi := inN_hi (lo := 1) (hi := 64) bl (by omega)
  have rlo := inN_lo 1 4096 ro
  have rhi := inN_hi (lo := 1) (hi := 4096) ro (by omega)
  generalize inN 1 64 bl = nb at *
  generalize inN 1 4096 ro = room at *
  have HS := hid hS
  have hlen := hS.len
  clear hS
  go_enter Try.func5, Try.ntmps5
  go_wp2_with fail
  refine Calls.mono (H1.out _) ?_
  rintro e w1 ⟨rfl, hw⟩
  rw [hw]
  clear H1 hw
  go_wp2_with fail
  refine Calls.mono (H2.out _) ?_
  rintro e w1 ⟨rfl, hw⟩
  rw [hw]
  clear H2 hw
  have HP := hid (pair_any nb room lo (by omega) rlo rhi w)
  go_wp2_with fail
  refine Calls.mono HP.out ?_
  rintro e w1 ⟨p, p2, c, X, Y, X2, rfl, T, hX, b1⟩
  have HD : Hid (Duo w.heap.size w w1 c p p2 room nb 0) := ⟨X, Y, X2, 0, 0, [], zeros (512 * nb), [], -1, false, T, Good.nil _ _ _, by simp, by omega, by omega, hX, b1.size, b1⟩
  clear HP T hX b1
  go_wp2_with fail
  go_loopw [11] (fun i wr => ∃ k : Nat, k ≤ n ∧ i = .int .i64 (k : Int) ∧ Duo w.heap.size w wr c p p2 room nb k) (fun i _ => n - (intOf i).toNat)
  case atStart => exact ⟨0, Nat.zero_le _, rfl, HD.out⟩
  case round =>
    clear HD
    obtain ⟨k, hk, rfl, hduo⟩ := hrel
    have hbr : Below w.heap.size w wr := by obtain ⟨_, _, _, _, _, _, _, _, _, _, _, _, _, _, _, _, _, h8⟩ := hduo; exact h8
    by_cases hkn : k < n
    · have hSr := HS.out.below hbr
      obtain ⟨b, o, rfl, hbb, hc'⟩ := hSr.cel.resolve_left (by omega)
      have hkL : k < L.length := by omega
      have hdk : L[k]? = some L[k] := List.getElem?_eq_getElem hkL
      obtain ⟨q0, q1, q2, q3, q4⟩ := hc' k _ hdk
      have HA := hid (alike_any hduo (by omega) (HS.out.ok L[k] (List.getElem_mem hkL)))
      have hkn' : (k : Int) < (n : Int) := by omega
      generalize L[k] = d at *
      clear hSr hc' hdk hkL hduo hbr
      unfold CAct.val cactV at HA
      go_wp2_with fail
      refine Calls.mono HA.out ?_
      rintro e w2 ⟨rfl, hd2⟩
      have F := hid hd2
      clear hd2 HA q0 q1 q2 q3 q4
      go_wp2_with fail
      go_roundw
      case rel => exact ⟨k + 1, by omega, by go_num, F.out⟩
      case measure => simp [intOf]; omega
    · have hkn' : ¬ (k : Int) < (n : Int) := by omega
      have hkn2 : k = n := by omega
      subst hkn2
      obtain ⟨X, Y, X2, hi', mi', l, img, puts, fu, off, h1, h2, h3, h4, h5, h6, h7, h8⟩ := hduo
      have HP1 := hid (Pending_any h1.cd.dk (by omega))
      have K := hid (And.intro h1 h8)
      clear h1 h2 h6 h8 h7 hbr
      go_wp2_with fail
      refine Calls.mono HP1.out ?_
      rintro e w2 ⟨g1, rfl, g1l, k1, b1⟩
      have HP2 := hid (Pending_any (K.out.1.d2.below b1) (by omega))
      have K1 := hid (And.intro k1 b1)
      clear HP1 k1 b1
      go_wp2_with fail
      refine Calls.mono HP2.out ?_
      rintro e w3 ⟨g2, rfl, g2l, k2, b2⟩
      have HI1 := hid (Image_any ((K.out.1.cd.dk.below K1.out.2).below b2))
      have K2 := hid (And.intro k2 b2)
      clear HP2 k2 b2
      go_wp2_with fail
      refine Calls.mono HI1.out ?_
      rintro e w4 ⟨g3, c3, rfl, g3l, k3, b3⟩
      have HI2 := hid (Image_any (((K.out.1.d2.below K1.out.2).below K2.out.2).below b3))
      have K3 := hid (And.intro k3 b3)
      clear HI1 k3 b3
      go_wp2_with fail
      refine Calls.mono HI2.out ?_
      rintro e w5 ⟨g4, c4, rfl, g4l, k4, b4⟩
      have FIN : Hid (RdI w5.heap.size w5 (some ⟨g1, 0, none⟩) puts.length (puts.map fun q => (q.1 : Int)) ∧ RdI w5.heap.size w5 (some ⟨g2, 0, none⟩) puts.length (puts.map fun q => (q.1 : Int)) ∧ Rd w5.heap.size w5 (some ⟨g3, 0, none⟩) img.length img ∧ Rd w5.heap.size w5 (some ⟨g4, 0, none⟩) img.length img ∧ Below w.heap.size w w5) := by
        have hib := K.out.1.cd.dk.facts.1
        have s0 := K.out.2.size
        have s1 := K1.out.2.size
        have s2 := K2.out.2.size
        have s3 := K3.out.2.size
        have s4 := b4.size
        have i1 : Blk .i64 3 w5 g1 _ := (((K1.out.1.below K2.out.2 K1.out.1.lt).below K3.out.2 (by have := K1.out.1.lt; omega)).below b4 (by have := K1.out.1.lt; omega))
        have i2 : Blk .i64 3 w5 g2 _ := ((K2.out.1.below K3.out.2 K2.out.1.lt).below b4 (by have := K2.out.1.lt; omega))
        have i3 : Own w5 g3 img.length c3 img := K3.out.1.below b4
        have j1 := RdI.of_blk i1 (B := w5.heap.size) i1.lt
        have j2 := RdI.of_blk i2 (B := w5.heap.size) i2.lt
        rw [List.length_map] at j1 j2
        exact ⟨j1, j2, i3.rd hib, k4.rd hib, K.out.2.trans (((K1.out.2.mono s0).trans (K2.out.2.mono (by omega))).trans ((K3.out.2.mono (by omega)).trans (b4.mono (by omega))))⟩
      clear k4 b4 HI2 K K1 K2 K3
      have HSI := hid (SameInts_eq w5.heap.size (some ⟨g1, 0, none⟩) (some ⟨g2, 0, none⟩) puts.length puts.length puts.length _ w5 (Nat.le_refl _) (by omega) FIN.out.1 FIN.out.2.1)
      generalize puts.length = np at *
      generalize img.length = ni at *
      go_wp2_with fail
      refine Calls.mono (num_any 0 w5) ?_
      rintro e w6 ⟨rfl, hw6⟩
      rw [hw6]
      clear hw6
      go_wp2_with fail
      refine Calls.mono HSI.out ?_
      rintro e w6 ⟨rfl, b6⟩
      have HSB := hid (SameBytes_eq w5.heap.size (some ⟨g3, 0, none⟩) (some ⟨g4, 0, none⟩) ni c3 ni c4 _ w6 (FIN.out.2.2.1.below b6) (FIN.out.2.2.2.1.below b6))
      have B6 := hid b6
      clear HSI b6
      go_wp2_with fail
      refine Calls.mono HSB.out ?_
      rintro e w7 ⟨rfl, hw7⟩
      clear HSB
      go_wp2
      go_ret
      exact ⟨rfl, FIN.out.2.2.2.2.trans (B6.out.mono FIN.out.2.2.2.2.size)⟩

end Go.Proofs.Ytokgfnfgpjkpjaa
