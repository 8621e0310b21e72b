/-
  The document's Pack (function 42).
-/
import Derived.Test.YteaebdonnicbkaaPkE
import Derived.Test.YteaebdonnicbkaaRSt
namespace Go.Proofs.Yteaebdonnicbkaa
open Go.RowKit

/-- the greatest value of a width -/
def topZ (n : Nat) : Int := if n = 8 then 9223372036854775807 else 256 ^ n - 1

set_option maxRecDepth 100000 in
set_option maxHeartbeats 1000000 in
theorem top_any (n : Nat) (w : World) (hn : n ≤ 8) : Calls Try.prog 56 #[.int .i64 (n : Int)] w fun e w' => e = .returned (.int .i64 (topZ n)) ∧ w' = w := by
  by_cases h8 : n = 8
  · subst h8
    go_enter Try.func56, Try.ntmps56
    go_wp2
    go_ret
    exact ⟨rfl, rfl⟩
  · have e : topZ n = 256 ^ n - 1 := by unfold topZ; rw [if_neg h8]
    rw [e]
    clear e
    have h8' : ((n : Int) == 8) = false := by simp; omega
    go_enter Try.func56, Try.ntmps56
    go_wp2
    go_loop [3, 4] (fun v i => ∃ (k : Nat) (P : Int), k ≤ n ∧ i = .int .i64 (k : Int) ∧ v = .int .i64 P ∧ P = 256 ^ k) (fun _ i => n - (intOf i).toNat)
    case atStart => exact ⟨0, 1, by omega, rfl, rfl, rfl⟩
    case round =>
      obtain ⟨k, P, hk, rfl, rfl, hP⟩ := hrel
      have h0 : (0 : Int) < P := by rw [hP]; exact Int.pow_pos (by decide)
      by_cases hkn : k < n
      · have h1 : P ≤ 281474976710656 := by
          rw [hP]
          rcases (show k = 0 ∨ k = 1 ∨ k = 2 ∨ k = 3 ∨ k = 4 ∨ k = 5 ∨ k = 6 from by omega) with rfl | rfl | rfl | rfl | rfl | rfl | rfl <;> decide
        have HP : Hid (256 * P = 256 ^ (k + 1)) := by show _ = _; rw [Int.pow_succ, ← hP, Int.mul_comm]
        have e : IntKind.i64.wrap (256 * P) = 256 * P := by rw [IntKind.wrap_i64]; omega
        clear hP
        go_wp2
        go_round
        case rel => exact ⟨k + 1, 256 * P, by omega, by go_num, rfl, HP.out⟩
        case measure => simp [intOf]; omega
      · obtain rfl : k = n := by omega
        have h1 : P ≤ 72057594037927936 := by
          rw [hP]
          rcases (show k = 0 ∨ k = 1 ∨ k = 2 ∨ k = 3 ∨ k = 4 ∨ k = 5 ∨ k = 6 ∨ k = 7 from by omega) with rfl | rfl | rfl | rfl | rfl | rfl | rfl | rfl <;> decide
        have HP := hid hP
        clear hP
        go_wp2
        go_ret
        have h := HP.out
        subst h
        exact ⟨rfl, rfl⟩

theorem chk_width {x v : Int} (h : x < 1 ∨ 8 < x) : chk x v = 10 := by
  unfold chk
  rw [if_pos (by simp [wfB]; omega)]
theorem chk_value {x v : Int} (h1 : 1 ≤ x) (h2 : x ≤ 8) (h : v < 0 ∨ 256 ^ x.toNat ≤ v) : chk x v = 11 := by
  unfold chk
  rw [if_neg (by simp [wfB]; omega), if_pos h]
theorem chk_fine {x v : Int} (h1 : 1 ≤ x) (h2 : x ≤ 8) (h3 : 0 ≤ v) (h : ¬ 256 ^ x.toNat ≤ v) : chk x v = 0 := by
  unfold chk
  rw [if_neg (by simp [wfB]; omega), if_neg (by omega)]
theorem over_top {n : Nat} {v : Int} (hn : n ≤ 8) (h2 : v ≤ 9223372036854775807) : (256 ^ n ≤ v) ↔ topZ n < v := by
  unfold topZ
  split
  · rename_i h
    subst h
    constructor
    · intro h; exact absurd h (by simp; omega)
    · intro h; omega
  · constructor <;> intro h <;> omega
theorem packR_bad {fs : List (Int × Int)} {k : Nat} (hk : k < fs.length) (hok : okF (fs.take k)) (hb : chk (fs.getD k (0, 0)).1 (fs.getD k (0, 0)).2 ≠ 0) : packR fs = (chk (fs.getD k (0, 0)).1 (fs.getD k (0, 0)).2, []) := by
  have e : badF fs = some (fs.getD k (0, 0)) := by
    induction fs generalizing k with
    | nil => simp at hk
    | cons f r ih =>
      unfold badF
      rw [List.find?_cons]
      cases k with
      | zero =>
        have : chk f.1 f.2 ≠ 0 := by simpa using hb
        simp [this]
      | succ k =>
        rw [List.take_succ_cons, okF_cons] at hok
        have := ih (k := k) (by simpa using hk) hok.2 (by simpa using hb)
        unfold badF at this
        simp [hok.1]
        simpa using this
  unfold packR
  rw [e]
theorem packR_ok {fs : List (Int × Int)} (h : okF fs) : packR fs = (0, packZ fs) := by
  have e : badF fs = none := List.find?_eq_none.2 (fun f hf => by simp [h f hf])
  unfold packR
  rw [e]

set_option maxRecDepth 100000 in
set_option maxHeartbeats 2000000 in
theorem refPack_any (a : Option Addr) (m c : Nat) (fs : List (Int × Int)) (w : World) (hm : m ≤ 16777216) (hR : RdF w.heap.size w a m fs) :
    Calls Try.prog 42 #[.slice a m c] w fun e w' => ∃ a2 n2 c2, e = .returned (.tuple #[.slice a2 n2 c2, .int .i64 (packR fs).1]) ∧ Rd w'.heap.size w' a2 n2 (packR fs).2 ∧ Below w.heap.size w w' := by
  obtain ⟨hl, hv, h3⟩ := hR
  generalize hPR : packR fs = PR at *
  have HPR := hid hPR
  clear hPR
  go_enter Try.func42, Try.ntmps42
  go_wp2_with fail
  go_loopw [4, 5] (fun o i wt => ∃ k : Nat, k ≤ m ∧ i = .int .i64 (k : Int) ∧ okF (fs.take k) ∧ OwB w.heap.size wt o (packZ (fs.take k)).length (packZ (fs.take k)) ∧ Below w.heap.size w wt) (fun _ i _ => m - (intOf i).toNat)
  case atStart => exact ⟨0, Nat.zero_le _, rfl, by intro f hf; simp at hf, OwB.nil _ _, Below.refl _ _⟩
  case round =>
    obtain ⟨k, hk, rfl, hok, hO, hbr⟩ := hrel
    obtain ⟨ao, co, rfl, _⟩ := owns_slice hO
    by_cases hkm : k < m
    · obtain ⟨b, off, rfl, hb, hc⟩ := h3.resolve_left (by omega)
      obtain ⟨x, hx⟩ : ∃ x, x = (fs.getD k (0, 0)).1 := ⟨_, rfl⟩
      obtain ⟨v, hv'⟩ : ∃ v, v = (fs.getD k (0, 0)).2 := ⟨_, rfl⟩
      have hmem : fs.getD k (0, 0) ∈ fs := by
        have : k < fs.length := by omega
        simp [this]
      have hvb := hv _ hmem
      obtain ⟨hcx, hcv⟩ := hc k (by omega)
      rw [← hx] at hcx
      rw [← hv'] at hcv hvb
      have hcx' := (hbr.cell (p := ⟨b, off + k * 2, none⟩) (by exact hb)).trans hcx
      have hcv' := (hbr.cell (p := ⟨b, off + k * 2 + 1, none⟩) (by exact hb)).trans hcv
      have hle := okF_le hok
      rw [List.length_take] at hle
      have hle2 : (packZ (fs.take k)).length ≤ 134217728 := by omega
      have hkm' : (k : Int) < (m : Int) := by omega
      have Hbad : Hid (chk x v ≠ 0 → PR = (chk x v, [])) := by
        show _ → _
        intro h
        rw [← HPR.out, hx, hv']
        exact packR_bad (by omega) hok (by rw [← hx, ← hv']; exact h)
      have Hok2 : Hid (chk x v = 0 → okF (fs.take (k + 1)) ∧ packZ (fs.take (k + 1)) = packZ (fs.take k) ++ Pl.dig v x.toNat) := by
        show _ → _
        intro h
        rw [takeF (by omega), show fs.getD k (0, 0) = (x, v) from by rw [hx, hv'], packZ_snoc]
        refine ⟨?_, rfl⟩
        intro f hf
        rcases List.mem_append.1 hf with hf | hf
        · exact hok f hf
        · simp at hf; subst hf; exact h
      have HO := hid hO
      have Hb := hid hbr
      clear hle hx hv' hmem hcx hcv hok hO hbr
      by_cases hx1 : x < 1
      · have HE := hid (Hbad.out (by rw [chk_width (.inl hx1)]; decide))
        rw [chk_width (.inl hx1)] at HE
        go_wp2
        go_ret2
        rw [HE.out]
        first
        | exact ⟨none, 0, 0, rfl, ⟨rfl, Pl.isB_nil, .inl rfl⟩, Hb.out⟩
        | exact ⟨none, 0, ⟨0, rfl⟩, ⟨rfl, Pl.isB_nil, .inl rfl⟩, Hb.out⟩
      by_cases hx8 : 8 < x
      · have HE := hid (Hbad.out (by rw [chk_width (.inr hx8)]; decide))
        rw [chk_width (.inr hx8)] at HE
        have hx1' : 1 ≤ x := by omega
        go_wp2
        go_ret2
        rw [HE.out]
        first
        | exact ⟨none, 0, 0, rfl, ⟨rfl, Pl.isB_nil, .inl rfl⟩, Hb.out⟩
        | exact ⟨none, 0, ⟨0, rfl⟩, ⟨rfl, Pl.isB_nil, .inl rfl⟩, Hb.out⟩
      have hx1' : 1 ≤ x := by omega
      have hx8' : x ≤ 8 := by omega
      obtain ⟨X, rfl⟩ := Int.eq_ofNat_of_zero_le (show 0 ≤ x by omega)
      by_cases hv0 : v < 0
      · have HE := hid (Hbad.out (by rw [chk_value hx1' hx8' (.inl hv0)]; decide))
        rw [chk_value hx1' hx8' (.inl hv0)] at HE
        go_wp2
        go_ret2
        rw [HE.out]
        first
        | exact ⟨none, 0, 0, rfl, ⟨rfl, Pl.isB_nil, .inl rfl⟩, Hb.out⟩
        | exact ⟨none, 0, ⟨0, rfl⟩, ⟨rfl, Pl.isB_nil, .inl rfl⟩, Hb.out⟩
      have hv0' : 0 ≤ v := by omega
      go_wp2_with fail
      refine (top_any X wr (by omega)).mono ?_
      rintro e w5 ⟨rfl, e5⟩
      have e6 := e5.symm
      subst e6
      clear e5
      by_cases hvt : topZ X < v
      · have hov := (over_top (n := X) (by omega) hvb.2).2 hvt
        have HE := hid (Hbad.out (by rw [chk_value hx1' hx8' (.inr hov)]; decide))
        rw [chk_value hx1' hx8' (.inr hov)] at HE
        clear hov
        generalize topZ X = T at *
        go_wp2
        go_ret2
        rw [HE.out]
        first
        | exact ⟨none, 0, 0, rfl, ⟨rfl, Pl.isB_nil, .inl rfl⟩, Hb.out⟩
        | exact ⟨none, 0, ⟨0, rfl⟩, ⟨rfl, Pl.isB_nil, .inl rfl⟩, Hb.out⟩
      have hnv : ¬ 256 ^ ((X : Int)).toNat ≤ v := fun h => hvt ((over_top (n := X) (by omega) hvb.2).1 h)
      obtain ⟨hk1, hk2⟩ := Hok2.out (chk_fine hx1' hx8' hv0' hnv)
      have HK1 := hid hk1
      have HK2 := hid hk2
      have hvt' : v ≤ topZ X := by omega
      clear hnv hk1 hk2 Hok2 Hbad hvt
      generalize topZ X = T at *
      generalize packZ (fs.take k) = pz at *
      go_wp2_with fail
      refine (refBytes_any v X wr hv0' hvb.2 (by omega)).mono ?_
      rintro e w6 ⟨o6, rfl, ho6, hb6⟩
      obtain ⟨g6, c6, rfl, _, hO6⟩ := ho6.form (by omega)
      have P6 := hid (HO.out.below hb6)
      have N6 := hid hO6.src
      have B6 := hid (Hb.out.trans (hb6.mono Hb.out.size))
      clear ho6 hb6 hO6
      go_wp2_with (at_builtin; refine wpL_app (by rfl) _ _ (by rfl) w.heap.size _ pz.length pz (by rfl) (by exact P6.out) ⟨g6, 0, none⟩ X c6 (Pl.dig v X) (by rfl) (by exact Pl.length_dig _ _) (by exact N6.out) (by omega) (by omega) (by exact B6.out.size) ?_)
      intro g7 c7 w7 ho7 hb7 _ _
      have P7 := hid ho7
      have B7 := hid (B6.out.trans hb7)
      clear ho7 hb7 P6 B6 N6
      go_wp2
      go_roundw
      case rel => exact ⟨k + 1, by omega, by go_num, HK1.out, by rw [HK2.out, List.length_append, Pl.length_dig]; exact P7.out, B7.out⟩
      case measure => simp [intOf]; omega
    · obtain rfl : k = m := by omega
      rw [List.take_of_length_le (by omega)] at hok hO
      have HE := hid (HPR.out.symm.trans (packR_ok hok))
      have hle := okF_le hok
      have HR : Hid (Rd wr.heap.size wr ao (packZ fs).length (packZ fs)) := by
        show Rd _ _ _ _ _
        by_cases h0 : (packZ fs).length = 0
        · exact ⟨rfl, isB_packZ fs, .inl h0⟩
        · obtain ⟨g, cap, e, _, hOw⟩ := hO.form (by omega)
          cases e
          exact hOw.rd (isB_packZ fs)
      have Hb := hid hbr
      clear hok hO hbr hle
      go_wp2
      go_ret2
      rw [HE.out]
      rw [List.take_of_length_le (by omega)]
      exact ⟨_, _, _, rfl, HR.out, Hb.out⟩

end Go.Proofs.Yteaebdonnicbkaa
