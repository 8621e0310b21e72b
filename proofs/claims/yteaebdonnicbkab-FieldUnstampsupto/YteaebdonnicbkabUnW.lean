/-
  FieldUnstamps: the law's walk (function 3).
-/
import Derived.Test.YteaebdonnicbkabUns
namespace Go.Proofs.Yteaebdonnicbkab
open Go.RowKit

theorem Sta.cut {B : Nat} {Y : Nat → Prop} {w : World} {L b cnt tot nK : Nat} (h : Sta B Y w L b cnt tot nK) : Sta B (fun x => B ≤ x ∧ x < w.heap.size) w L b cnt tot nK := by
  obtain ⟨bv, X, h1, h2, h3, h4, h5⟩ := h
  exact ⟨bv, X, h1, h2, h3, fun x hx => ⟨(h4 x hx).2, (h4 x hx).2⟩, fun x hx => ⟨⟨(h5 x hx).2, h1.there hx⟩, (h5 x hx).2⟩⟩
def sumN (N : Nat → Nat) : Nat → Nat
  | 0 => 0
  | k + 1 => sumN N k + N k
theorem sumN_mono (N : Nat → Nat) {k m : Nat} (h : k ≤ m) : sumN N k ≤ sumN N m := by
  induction m with
  | zero => have : k = 0 := by omega
            subst this; exact Nat.le_refl _
  | succ m ih =>
    by_cases e : k = m + 1
    · subst e; exact Nat.le_refl _
    · have := ih (by omega)
      simp only [sumN]
      omega
/-- lists of bytes that are read -/
structure LsB (B : Nat) (w : World) (b off m : Nat) (A : Nat → Option Addr) (N C : Nat → Nat) (F : Nat → List Int) : Prop where
  lt : b < B
  cel : ∀ i, i < m → w.cell? ⟨b, off + i, none⟩ = some (.slice (A i) (N i) (C i))
  nil : ∀ i, i < m → A i = none → C i = 0
  cap : ∀ i, i < m → N i ≤ C i
  big : ∀ i, i < m → N i ≤ 1048576
  rd : ∀ i, i < m → Rd B w (A i) (N i) (F i)
  all : sumN N m ≤ 1048576

set_option maxRecDepth 100000 in
set_option maxHeartbeats 4000000 in
theorem unstamps_walk (a : Option Addr) (m c : Nat) (w : World) (hm : m ≤ 1048576) (h : m = 0 ∨ ∃ b off A N C F, a = some ⟨b, off, none⟩ ∧ LsB w.heap.size w b off m A N C F) :
    Calls Try.prog 3 #[.slice a m c] w fun e w' => e = .returned (.bool true) ∧ Below w.heap.size w w' := by
  have hsum : ∃ N : Nat → Nat, m = 0 ∨ ∃ b off A C F, a = some ⟨b, off, none⟩ ∧ LsB w.heap.size w b off m A N C F := by
    rcases h with h | ⟨b, off, A, N, C, F, h1, h2⟩
    · exact ⟨fun _ => 0, .inl h⟩
    · exact ⟨N, .inr ⟨b, off, A, C, F, h1, h2⟩⟩
  obtain ⟨N, h⟩ := hsum
  have hN : sumN N m ≤ 1048576 := by
    rcases h with h | ⟨b, off, A, C, F, h1, h2⟩
    · subst h; simp [sumN]
    · exact h2.all
  go_enter Try.func3, Try.ntmps3
  go_wp2_with fail
  refine (awake_any w).mono ?_
  rintro e w1 ⟨rfl, hb1⟩
  obtain ⟨wB, hwB⟩ : ∃ wB, wB = w1.alloc (.cells #[.int .i64 0, .int .i64 0, .bool false, .slice none 0 0, .slice none 0 0, .slice none 0 0, .slice none 0 0, .slice none 0 0] 27) := ⟨_, rfl⟩
  obtain ⟨wL, hwL⟩ : ∃ wL, wL = wB.alloc (.cells #[.slice none 0 0, .int .i64 0] 31) := ⟨_, rfl⟩
  have szB : wB.heap.size = w1.heap.size + 1 := by rw [hwB]; simp
  have szL : wL.heap.size = w1.heap.size + 2 := by rw [hwL]; simp; omega
  have zz := hb1.size
  have St0 : Hid (Sta w.heap.size (fun x => w.heap.size ≤ x) wL (w1.heap.size + 1) w1.heap.size 0 0 0) := by
    have hB0 : Bok w.heap.size (fun x => x = w1.heap.size) wB w1.heap.size 0 0 0 := Bok.new (by rw [hwB]; show (w1.heap.push _)[w1.heap.size]? = _; simp) zz
    have hLn : Lnd wL (w1.heap.size + 1) (.slice none 0 0) 0 := by
      unfold Lnd
      rw [hwL, ← szB]
      show (wB.heap.push _)[wB.heap.size]? = _
      simp
    refine ⟨.slice none 0 0, fun x => x = w1.heap.size, ⟨⟨0, hLn⟩, .inl rfl⟩, ?_, ?_, ?_, ?_⟩
    · refine hB0.but (Y := fun _ => False) ?_ (fun _ _ _ h => h)
      rw [hwL]
      exact (But.refl _ _).alloc _
    · rintro x (hx | hx) e
      · omega
      · cases hx
    · intro x hx; exact ⟨by omega, by omega, by omega⟩
    · rintro x (hx | hx)
      · exact ⟨by omega, by omega⟩
      · cases hx
  have Bl0 : Hid (Below w.heap.size w wL) := by
    show Below _ _ _
    rw [hwL, hwB]
    exact (hb1.alloc zz _).alloc (by simp; omega) _
  clear hb1
  go_wp2_with fail
  rw [← hwB, ← hwL]
  generalize w1.heap.size = b at *
  have Hh := hid h
  clear h hwB hwL szB szL zz
  go_loopw [5] (fun i wt => ∃ k cnt tot nK : Nat, k ≤ m ∧ i = .int .i64 (k : Int) ∧ cnt ≤ 3 * k ∧ tot ≤ 3 * sumN N k ∧ nK ≤ 45 * k ∧ Sta w.heap.size (fun x => w.heap.size ≤ x) wt (b + 1) b cnt tot nK ∧ Below w.heap.size w wt) (fun i _ => m - (intOf i).toNat)
  case atStart => exact ⟨0, 0, 0, 0, by omega, rfl, by omega, by omega, by omega, St0.out, Bl0.out⟩
  case round =>
    clear St0 Bl0
    obtain ⟨k, cnt, tot, nK, hk, rfl, hcnt, htot, hnK, hSt, hbt⟩ := hrel
    by_cases hkm : k < m
    · obtain ⟨bb, off, A, C, F, rfl, hC⟩ := Hh.out.resolve_left (by omega)
      have q0 := (hbt.cell (p := ⟨bb, off + k, none⟩) (by exact hC.lt)).trans (hC.cel k hkm)
      have Hq := hid (And.intro hC.lt (hC.cel k hkm))
      have Hnil := hid (hC.nil k hkm)
      have Hcap := hid (hC.cap k hkm)
      have hbig := hC.big k hkm
      have HRd := hid (hC.rd k hkm)
      have Hbt := hid hbt
      have HSt := hid hSt.cut
      have hs1 := sumN_mono N (show k + 1 ≤ m by omega)
      have hs2 : sumN N (k + 1) = sumN N k + N k := rfl
      have hkm' : (k : Int) < (m : Int) := by omega
      clear hbt hSt hC Hh
      generalize A k = aa at *
      generalize C k = cc at *
      generalize F k = fs at *
      have HPs := hid (unstamps_any w.heap.size _ wr (b + 1) b cnt tot nK aa (N k) cc fs Hbt.out.size (by omega) (by omega) (by omega) hbig Hcap.out HSt.out (RdN.of_rd (HRd.out.below Hbt.out) Hbt.out.size (fun x hx h => by omega)))
      have Hs := hid (And.intro hs1 hs2)
      clear hs1 hs2
      generalize N k = nn at *
      go_wp2_with fail
      refine Calls.mono HPs.out ?_
      rintro e v1 ⟨rfl, t1, n1, ht1, hn1, hs1, hb1⟩
      have B1 := hid (Hbt.out.trans (hb1.below Hbt.out.size (fun x hx h => by omega)))
      have S1 := hid hs1.cut
      have c1 := (B1.out.cell (p := ⟨bb, off + k, none⟩) (by exact Hq.out.1)).trans Hq.out.2
      have HOt := hid (turned_any aa nn cc fs v1 (by omega) Hnil.out ((HRd.out.below B1.out).mono B1.out.size))
      clear hs1 hb1 HPs HSt q0
      go_wp2_with fail
      refine Calls.mono HOt.out ?_
      rintro e v2 ⟨g, cap, rfl, hg, hO, hb2⟩
      have B2 := hid (B1.out.trans (hb2.mono B1.out.size))
      have S2 := hid (S1.out.but (But.of_below (X := fun _ => False) hb2) (fun _ _ h => h))
      have HP2 := hid (unstamps_any w.heap.size _ v2 (b + 1) b (cnt + 1) t1 n1 (some ⟨g, 0, none⟩) nn cap (turn fs) B2.out.size (by omega) (by omega) (by have := Hs.out; omega) hbig hO.cap S2.out (hO.rdn (isB_turn HRd.out.2.1) (fun h => by omega)))
      clear hO hb2 HOt c1
      go_wp2_with fail
      refine Calls.mono HP2.out ?_
      rintro e v3 ⟨rfl, t3, n3, ht3, hn3, hs3, hb3⟩
      have B3 := hid (B2.out.trans (hb3.below B2.out.size (fun x hx h => by omega)))
      have S3 := hid hs3.cut
      have c3 := (B3.out.cell (p := ⟨bb, off + k, none⟩) (by exact Hq.out.1)).trans Hq.out.2
      have HP3 := hid (unstamps_any w.heap.size _ v3 (b + 1) b (cnt + 1 + 1) t3 n3 aa nn cc fs B3.out.size (by omega) (by omega) (by have := Hs.out; omega) hbig Hcap.out S3.out (RdN.of_rd (HRd.out.below B3.out) B3.out.size (fun x hx h => by omega)))
      clear hs3 hb3 HP2 S2 S1
      go_wp2_with fail
      refine Calls.mono HP3.out ?_
      rintro e v4 ⟨rfl, t4, n4, ht4, hn4, hs4, hb4⟩
      have B4 := hid (B3.out.trans (hb4.below B3.out.size (fun x hx h => by omega)))
      have S4 := hid hs4.cut
      clear hs4 hb4 HP3 c3
      go_wp2
      go_roundw
      case rel => exact ⟨k + 1, cnt + 1 + 1 + 1, t4, n4, by omega, by go_num, by omega, by have := Hs.out.2; omega, by omega, S4.out.mono (fun x hx => hx.1), B4.out⟩
      case measure => simp [intOf]; omega
    · obtain rfl : k = m := by omega
      obtain ⟨bv, X, s1, s2, s3, s4, s5⟩ := hSt
      have HS := hid (settle_any w.heap.size X wr b cnt tot nK hbt.size (by omega) (by omega) (by omega) s2)
      have HX : Hid (∀ x, X x → w.heap.size ≤ x) := fun x hx => (s4 x hx).2.1
      have Hbt := hid hbt
      clear s1 s2 s3 s4 s5 hbt
      go_wp2_with fail
      refine Calls.mono HS.out ?_
      rintro e w2 ⟨rfl, hb2⟩
      have hb3 := hid (Hbt.out.trans (hb2.below Hbt.out.size (fun x hx h => by have := HX.out x h; omega)))
      clear hb2
      go_wp2
      go_ret
      exact ⟨rfl, hb3.out⟩

end Go.Proofs.Yteaebdonnicbkab
