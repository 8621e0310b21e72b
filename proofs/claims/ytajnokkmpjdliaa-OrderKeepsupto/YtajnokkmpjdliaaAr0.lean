/-
  The iterator over what stands behind a thing.
-/
import Derived.Test.YtajnokkmpjdliaaGr0
import Derived.Test.YtajnokkmpjdliaaRg0
import Derived.RegionIn
namespace Go.Proofs.Ytajnokkmpjdliaa
open Go.RowKit Go.Shelf

attribute [local go_sem] Oper.semAt_some

def encA (E : List (Nat × Nat)) (i : Nat) : Array Value := #[.int .i64 ((eg E i).2 : Int)]
def EA (E : List (Nat × Nat)) (x m : Nat) (pre : List Nat) (i : Nat) : Prop := ∃ rest, chn E x m = pre ++ i :: rest
theorem chn_len (E : List (Nat × Nat)) (x : Nat) : ∀ m, (chn E x m).length ≤ m
  | 0 => by simp [chn]
  | m + 1 => by
    have := chn_len E x m
    simp only [chn]
    split
    · simp; omega
    · omega

set_option maxRecDepth 100000 in
set_option maxHeartbeats 4000000 in
theorem beh_it (n0 : Nat) (hn1 : 1 ≤ n0) (Bg Bt Gb fb nb n m c x B : Nat) (a : Option Addr) (E : List (Nat × Nat)) (fs nx : List Int) (hx : x < n) (_hn : n ≤ 1048576) (hm : m ≤ 1048576) (hS : GS n m E m fs nx) (hE : EdOk n E) (I : Unit → List Nat → World → Prop) (Ix : Unit → Code → List Nat → World → Prop) (w : World)
    (hV : ∀ pre W, I () pre W → Gr W Gb fb nb n m a c fs nx ∧ RdE W a m E ∧ W.cell? ⟨Bg, 0, none⟩ = some (.pointer (some ⟨Gb, 0, none⟩)) ∧ W.cell? ⟨Bt, 0, none⟩ = some (.int .i64 (x : Int)))
    (hP : ∀ pre W, I () pre W → I () pre W.drew) :
    RfItG Fence.wide n0 Try.prog 40 #[.pointer (some ⟨Bg, 0, none⟩), .pointer (some ⟨Bt, 0, none⟩)] B (m + 1) (encA E) (fun _ xs => xs = chn E x m) (fun _ _ => True) (EA E x m) I Ix w () := by
  intro R Rx W hR hRx hRl hRxl hY h0 hr0 hbb
  have HY := hid hY
  have HR : Hid (∀ A, R A → R A.drew) := fun A h => hR A A.drew h ⟨rfl, rfl⟩
  have HV := hid hV
  have HP := hid hP
  have HS := hid hS
  have HE := hid hE
  have HM := hid hm
  obtain ⟨v1, v2, v3, v4⟩ := hV _ _ h0
  obtain ⟨g0, g1, g2, g3⟩ := v1.cells
  obtain ⟨z0, hz0⟩ : ∃ z0, z0 = fs.getD x 0 := ⟨_, rfl⟩
  have g4 := v1.f.cell x (by rw [hS.fl]; exact hx)
  rw [← hz0] at g4
  have hz1 : z0 = hd (chn E x m) := by rw [hz0]; exact hS.f x hx
  have HZ := hid hz1
  have HI0 : Hid (I () [] W.drew ∧ R W.drew) := ⟨hP _ _ h0, HR.out _ hr0⟩
  have q1 : (x : Int) < (n : Int) := by omega
  clear hV hP hY hR hRx hRl hRxl hbb hS hE h0 hr0 v1 v2 hz0 hz1 hm
  refine callsIn_of_wp Try.func40 rfl trivial ?_ rfl
  simp only [Try.ntmps40, List.size_toArray, List.length_cons, List.length_nil, Nat.reduceAdd, Nat.reduceSub, Array.replicate_succ, Array.replicate_zero, List.push_toArray, List.append_toArray, List.nil_append, List.cons_append]
  gi_wp2
  gi_region
  all_goals gi_wp2
  clear g0 g1 g2 g3 g4 q1
  gi_loopw [4] (fun cv wr => ∃ (pre : List Nat) (k : Nat), cv = .int .i64 (hd (chn E x k)) ∧ k ≤ m ∧ chn E x m = pre ++ chn E x k ∧ I () pre wr ∧ R wr) (fun cv _ => (intOf cv + 1).toNat)
  case atStart => exact ⟨[], m, by rw [HZ.out], Nat.le_refl _, rfl, HI0.out⟩
  case round =>
    obtain ⟨pre, k, rfl, hk, hc, hI, hRr⟩ := hrel
    clear HI0 HZ
    have HC := hid hc
    cases hr : chn E x k with
    | nil =>
      have HF : Hid (I () pre wr ∧ R wr ∧ pre = chn E x m) := ⟨hI, hRr, by rw [hc, hr, List.append_nil]⟩
      have e0 : hd ([] : List Nat) = -1 := rfl
      rw [e0]
      clear hI hRr hc
      gi_wp2
      go_end0
      exact ⟨⟨_, rfl⟩, .inl ⟨(), pre, HF.out.2.2, HF.out.1, HF.out.2.1⟩⟩
    | cons i rest =>
      obtain ⟨h1, h2, h3⟩ := chn_cons hr
      have e0 : hd (i :: rest) = (i : Int) := rfl
      rw [e0]
      obtain ⟨v1, v2, v3, v4⟩ := HV.out _ _ hI
      have g1 := v1.cells.2.1
      obtain ⟨ga, off, ha, c1, c2⟩ := v2.2 i (by omega)
      have hm := HM.out
      have q0 : 0 ≤ (i : Int) := by omega
      have q1 : (i : Int) < (m : Int) := by omega
      have hlen : pre.length < m + 1 := by
        have := chn_len E x m
        rw [hc, List.length_append] at this
        omega
      obtain ⟨fn, tmps, assign, body, hy, hRd⟩ := HY.out () pre i wr ⟨rest, by rw [hc, hr]⟩ hI hRr hlen
      unfold encA at hy
      have HRD := hid hRd
      have H3 : Hid (rest = chn E x i ∧ i < k ∧ chn E x m = (pre ++ [i]) ++ chn E x i) := ⟨h3, h1, by rw [hc, hr, h3]; simp⟩
      have H2 := hid h2
      clear hI hRr hRd hc v1 v2 h1 h2 h3 hr HC HY hlen
      subst ha
      gi_wp2
      refine HRD.out.mono ?_
      clear HRD
      rintro e W3 (⟨rfl, q1', q2'⟩ | ⟨rfl, c', q1', q2'⟩)
      · obtain ⟨v1, v2, v3, v4⟩ := HV.out _ _ q1'
        have g3 := v1.cells.2.2.2
        have g5 := v1.x.cell i (by rw [HS.out.nl]; omega)
        obtain ⟨z, hz⟩ : ∃ z, z = nx.getD i 0 := ⟨_, rfl⟩
        rw [← hz] at g5
        have HZ : Hid (z = hd (chn E x i)) := by
          rw [hz, ← H2.out]
          exact HS.out.x i (by omega)
        have Q1 := hid q1'
        have Q2 := hid q2'
        clear q1' q2' hy v1 v2 hz c1 c2 g1
        gi_wp2
        go_roundw
        case rel => exact ⟨pre ++ [i], i, by rw [← HZ.out], by have := H3.out.2.1; omega, H3.out.2.2, Q1.out, Q2.out⟩
        case measure =>
          rw [HZ.out]
          simp only [intOf]
          have hq : ∀ k, hd (chn E x k) + 1 ≤ (k : Int) := fun k => by
            cases hk9 : chn E x k with
            | nil => show (-1 : Int) + 1 ≤ _; omega
            | cons j r => have := (chn_cons hk9).1; show (j : Int) + 1 ≤ _; omega
          have := hq i
          omega
      · have Q1 := hid q1'
        have Q2 := hid q2'
        clear q1' q2' hy
        gi_wp2
        refine bodyPost_ret (results_none rfl _ _ _) rfl ?_
        exact ⟨⟨_, rfl⟩, .inr ⟨(), _, c', trivial, Q1.out, Q2.out⟩⟩
end Go.Proofs.Ytajnokkmpjdliaa
