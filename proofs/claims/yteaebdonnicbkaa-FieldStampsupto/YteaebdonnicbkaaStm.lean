/-
  FieldStamps: the record and the lender side by side; one Stamp held against the document's (function 32).
-/
import Derived.Test.YteaebdonnicbkaaBkZ
import Derived.Test.YteaebdonnicbkaaRSt
import Derived.Test.YteaebdonnicbkaaSums
namespace Go.Proofs.Yteaebdonnicbkaa
open Go.RowKit

theorem Bok.cut {B : Nat} {X : Nat → Prop} {w : World} {b cnt tot nK : Nat} (h : Bok B X w b cnt tot nK) : Bok B (fun x => X x ∧ x < w.heap.size) w b cnt tot nK := by
  obtain ⟨R, fr, he, ma, ke, wa, n, fv, hv, ms, kv, wv, K, Z, h⟩ := h
  refine ⟨R, fr, he, ma, ke, wa, n, fv, hv, ms, kv, wv, K, Z, ⟨h.hn, h.hml, h.hms, h.hZ, h.bk, h.fs, h.hd, fun x hx => ⟨h.xx x hx, ?_⟩⟩⟩
  rcases hx with q | q | q | q | q | q | q | ⟨j, hj, q⟩
  · rw [q]; exact h.bk.blk.lt
  · exact (World.ownsRow.lt h.bk.oF x q).2
  · exact (World.ownsRow.lt h.bk.oH x q).2
  · exact (World.ownsRow.lt h.bk.oM x q).2
  · exact (World.ownsRow.lt h.bk.rK.own x q).2
  · exact (World.ownsRow.lt h.bk.rW.own x q).2
  · exact (h.bk.rT x q).lt
  · exact (h.fs.own hj q).1.lt

/-- the record in block b, the lender in block L; Y: blocks among which theirs are -/
def Sta (B : Nat) (Y : Nat → Prop) (w : World) (L b cnt tot nK : Nat) : Prop :=
  ∃ bv X, LS w L bv ∧ Bok B X w b cnt tot nK ∧ (∀ x, XL L bv x → ¬ X x) ∧ (∀ x, X x → Y x ∧ B ≤ x ∧ x < w.heap.size) ∧ (∀ x, XL L bv x → Y x ∧ B ≤ x)
theorem Sta.mono {B : Nat} {Y Y' : Nat → Prop} {w : World} {L b cnt tot nK : Nat} (h : Sta B Y w L b cnt tot nK) (hy : ∀ x, Y x → Y' x) : Sta B Y' w L b cnt tot nK := by
  obtain ⟨bv, X, h1, h2, h3, h4, h5⟩ := h
  exact ⟨bv, X, h1, h2, h3, fun x hx => ⟨hy x (h4 x hx).1, (h4 x hx).2⟩, fun x hx => ⟨hy x (h5 x hx).1, (h5 x hx).2⟩⟩
theorem Sta.but {B : Nat} {Y Z : Nat → Prop} {w w' : World} {L b cnt tot nK : Nat} (h : Sta B Y w L b cnt tot nK) (hb : But Z w w') (hz : ∀ x, Y x → ¬ Z x) : Sta B Y w' L b cnt tot nK := by
  obtain ⟨bv, X, h1, h2, h3, h4, h5⟩ := h
  exact ⟨bv, X, h1.but hb (fun x hx => hz x (h5 x hx).1), h2.but hb (fun x _ hx => hz x (h4 x hx).1), h3, fun x hx => ⟨(h4 x hx).1, (h4 x hx).2.1, Nat.lt_of_lt_of_le (h4 x hx).2.2 hb.size⟩, h5⟩

/-- what a Stamp answers: the number of its error, and the block -/
def stampR (K S : Int) (body : List Int) : Int × List Int :=
  if K < 1 ∨ 255 < K then (13, []) else if S < 0 ∨ 1099511627776 < S then (14, []) else if 497 < body.length then (15, []) else (0, stampZ K S body)

theorem Stamp_any (K S : Int) (a : Option Addr) (n c : Nat) (body : List Int) (w : World) (hR : Rd w.heap.size w a n body) :
    Calls Try.prog 11 #[.int .i64 K, .int .i64 S, .slice a n c] w fun e w' => ∃ al, e = .returned (.tuple #[.slice al (stampR K S body).2.length (stampR K S body).2.length, .int .i64 (stampR K S body).1]) ∧
      ((al = none ∧ (stampR K S body).2 = []) ∨ (al = some ⟨w.heap.size, 0, none⟩ ∧ Blk .u8 5 w' w.heap.size (stampR K S body).2)) ∧ Pl.isB (stampR K S body).2 ∧ (stampR K S body).2.length ≤ 512 ∧ Below w.heap.size w w' := by
  unfold stampR
  by_cases h1 : K < 1 ∨ 255 < K
  · simp only [if_pos h1]
    refine (Stamp_kind K S a n c w h1).mono ?_
    rintro e w' ⟨rfl, rfl⟩
    exact ⟨none, rfl, .inl ⟨rfl, trivial⟩, Pl.isB_nil, by simp, Below.refl _ _⟩
  · simp only [if_neg h1]
    by_cases h2 : S < 0 ∨ 1099511627776 < S
    · simp only [if_pos h2]
      refine (Stamp_seq K S a n c w (by omega) (by omega) h2).mono ?_
      rintro e w' ⟨rfl, rfl⟩
      exact ⟨none, rfl, .inl ⟨rfl, trivial⟩, Pl.isB_nil, by simp, Below.refl _ _⟩
    · simp only [if_neg h2]
      have hl := hR.1
      by_cases h3 : 497 < body.length
      · simp only [if_pos h3]
        refine (Stamp_long K S a n c w (by omega) (by omega) (by omega) (by omega) (by omega)).mono ?_
        rintro e w' ⟨rfl, rfl⟩
        exact ⟨none, rfl, .inl ⟨rfl, trivial⟩, Pl.isB_nil, by simp, Below.refl _ _⟩
      · simp only [if_neg h3]
        have hl5 := (stamp_facts K S body (by omega) (by omega) (by omega) (by omega) (by omega) hR.2.1).1
        refine (Stamp_ok K S a n c body w (by omega) (by omega) (by omega) (by omega) (by omega) hR).mono ?_
        rintro e w' ⟨rfl, hB, hb⟩
        exact ⟨_, by rw [hl5], .inr ⟨rfl, hB⟩, isB_stamp K S body (by omega) (by omega) hR.2.1, by omega, hb⟩
theorem refStamp_any (K S : Int) (a : Option Addr) (n c : Nat) (body : List Int) (w : World) (hnil : a = none → c = 0) (hR : Rd w.heap.size w a n body) :
    Calls Try.prog 53 #[.int .i64 K, .int .i64 S, .slice a n c] w fun e w' => ∃ a2 n2 c2, e = .returned (.tuple #[.slice a2 n2 c2, .int .i64 (stampR K S body).1]) ∧ Rd w'.heap.size w' a2 n2 (stampR K S body).2 ∧ Below w.heap.size w w' := by
  unfold stampR
  by_cases h1 : K < 1 ∨ 255 < K
  · simp only [if_pos h1]
    refine (refStamp_kind K S a n c w h1).mono ?_
    rintro e w' ⟨rfl, rfl⟩
    exact ⟨none, 0, 0, rfl, ⟨rfl, Pl.isB_nil, .inl rfl⟩, Below.refl _ _⟩
  · simp only [if_neg h1]
    by_cases h2 : S < 0 ∨ 1099511627776 < S
    · simp only [if_pos h2]
      refine (refStamp_seq K S a n c w (by omega) (by omega) h2).mono ?_
      rintro e w' ⟨rfl, rfl⟩
      exact ⟨none, 0, 0, rfl, ⟨rfl, Pl.isB_nil, .inl rfl⟩, Below.refl _ _⟩
    · simp only [if_neg h2]
      have hl := hR.1
      by_cases h3 : 497 < body.length
      · simp only [if_pos h3]
        refine (refStamp_long K S a n c w (by omega) (by omega) (by omega) (by omega) (by omega)).mono ?_
        rintro e w' ⟨rfl, rfl⟩
        exact ⟨none, 0, 0, rfl, ⟨rfl, Pl.isB_nil, .inl rfl⟩, Below.refl _ _⟩
      · simp only [if_neg h3]
        refine (refStamp_ok K S a n c body w (by omega) (by omega) (by omega) (by omega) (by omega) hnil hR).mono ?_
        rintro e w' ⟨g, cap, rfl, _, hO, hb⟩
        exact ⟨_, _, _, rfl, hO.rd (isB_stamp K S body (by omega) (by omega) hR.2.1), hb⟩

set_option maxRecDepth 100000 in
set_option maxHeartbeats 4000000 in
theorem stamps_any (B : Nat) (Y : Nat → Prop) (w : World) (L b cnt tot nK : Nat) (K S : Int) (a : Option Addr) (n c : Nat) (zs : List Int) (hB : B ≤ w.heap.size) (hnK : nK ≤ 67108000) (hc : cnt ≤ 8388000) (ht : tot ≤ 1073741000) (hn : n ≤ 1048576)
    (hnil : a = none → c = 0) (h : Sta B Y w L b cnt tot nK) (hR : RdN Y w a n zs) :
    Calls Try.prog 32 #[.agg #[.int .i64 K, .int .i64 S, .slice a n c], .pointer (some ⟨L, 0, none⟩), .pointer (some ⟨b, 0, none⟩)] w fun e w' => e = .returned (.bool true) ∧
      ∃ tot' nK', tot' ≤ tot + 512 ∧ nK' ≤ nK + 15 ∧ Sta B (fun x => Y x ∨ w.heap.size ≤ x) w' L b (cnt + 1) tot' nK' ∧ But Y w w' := by
  obtain ⟨bv, X, h1, h2, h3, h4, h5⟩ := h
  obtain ⟨wa, hwa⟩ : ∃ wa, wa = w.alloc (.cells #[.int .i64 K, .int .i64 S, .slice a n c] 77) := ⟨_, rfl⟩
  have A0 : But (fun _ => False) w wa := by rw [hwa]; exact (But.refl _ _).alloc _
  have hsz : wa.heap.size = w.heap.size + 1 := by rw [hwa]; simp
  have q0 : wa.cell? ⟨w.heap.size, 0, none⟩ = some (.int .i64 K) := by rw [hwa]; exact World.cell?_alloc_at _ _ _ _ rfl
  have q1 : wa.cell? ⟨w.heap.size, 1, none⟩ = some (.int .i64 S) := by rw [hwa]; exact World.cell?_alloc_at _ _ _ _ rfl
  have q2 : wa.cell? ⟨w.heap.size, 2, none⟩ = some (.slice a n c) := by rw [hwa]; exact World.cell?_alloc_at _ _ _ _ rfl
  have hF : ∀ (P : Nat → Prop) x, P x → ¬ (fun _ : Nat => False) x := fun _ _ _ h => h
  have h1a := h1.but A0.drew (hF _)
  have hRa := (hR.mono (Y := XL L bv) (fun x _ hx => (h5 x hx).1)).but ((A0.drew).mono (fun _ _ h => h.elim))
  have HLd := hid (Lend_any L bv a n c zs wa.drew (by omega) h1a hRa)
  have Hlt := hid (show w.heap.size < wa.drew.heap.size by show w.heap.size < wa.heap.size; omega)
  have Hxx := hid (show ¬ XL L bv w.heap.size from fun h => by have := h1.there h; omega)
  have HR := hid (show ∀ w1 G, But (XL L bv) wa.drew w1 → (bv.ownBlock = some G ∨ wa.drew.heap.size ≤ G) → RdN (fun x => x = L ∨ x = G) w1 a n zs from fun w1 G hb hG => hRa.apart hb hG)
  have Hh := hid (And.intro h1 (And.intro h2 (And.intro h3 (And.intro h4 h5))))
  clear h1 h2 h3 h4 h5 h1a hRa hF
  go_enter Try.func32, Try.ntmps32
  go_wp2_with fail
  rw [← hwa]
  have Hwa := hid hwa
  clear hwa
  go_region_held3 (fun w' => w'.cell? ⟨w.heap.size, 0, none⟩ = some (.int .i64 K) ∧ w'.cell? ⟨w.heap.size, 1, none⟩ = some (.int .i64 S) ∧ w'.cell? ⟨w.heap.size, 2, none⟩ = some (.slice a n c)) (first | (exact ⟨by assumption, by assumption, by assumption⟩) | go_keep)
    ((first
      | (go_at_call 23; refine Calls.mono HLd.out ?_; rintro e w1 ⟨G, M, rfl, hLent, hG, hb1⟩
         have k0 : w1.cell? ⟨w.heap.size, 0, none⟩ = some (.int .i64 K) := (hb1.cell (p := ⟨w.heap.size, 0, none⟩) (by exact Hlt.out) (by exact Hxx.out)).trans q0
         have k1 : w1.cell? ⟨w.heap.size, 1, none⟩ = some (.int .i64 S) := (hb1.cell (p := ⟨w.heap.size, 1, none⟩) (by exact Hlt.out) (by exact Hxx.out)).trans q1
         have k2 : w1.cell? ⟨w.heap.size, 2, none⟩ = some (.slice a n c) := (hb1.cell (p := ⟨w.heap.size, 2, none⟩) (by exact Hlt.out) (by exact Hxx.out)).trans q2
         have Hlt2 : Hid (w.heap.size < w1.heap.size) := Nat.lt_of_lt_of_le Hlt.out hb1.size
         have L1 := hid (And.intro hLent (And.intro hG hb1))
         have R1 := hid (HR.out w1 G hb1 hG)
         have HSt := hid (Stamp_any K S (some ⟨G, 0, none⟩) n (2 * n + 70) zs w1 (hLent.rd R1.out.1 R1.out.2.1))
         clear hLent hG hb1)
      | (go_at_call 11; refine Calls.mono HSt.out ?_; rintro e w2 ⟨al, rfl, hal, hZb, hZl, hb2⟩
         have j0 : w2.cell? ⟨w.heap.size, 0, none⟩ = some (.int .i64 K) := (hb2.cell (p := ⟨w.heap.size, 0, none⟩) (by exact Hlt2.out)).trans k0
         have j1 : w2.cell? ⟨w.heap.size, 1, none⟩ = some (.int .i64 S) := (hb2.cell (p := ⟨w.heap.size, 1, none⟩) (by exact Hlt2.out)).trans k1
         have j2 : w2.cell? ⟨w.heap.size, 2, none⟩ = some (.slice a n c) := (hb2.cell (p := ⟨w.heap.size, 2, none⟩) (by exact Hlt2.out)).trans k2
         have A2 := hid (And.intro hal (And.intro hZb (And.intro hZl hb2)))
         clear hal hZb hZl hb2)))
  obtain ⟨hal, hZb, hZl, hb2⟩ := A2.out
  obtain ⟨hLent, hG, hb1⟩ := L1.out
  have R2 := hid (R1.out.but (But.of_below hb2))
  have HRf := hid (refStamp_any K S a n c zs w2 hnil R2.out.rd)
  clear HSt A2 L1 HR HLd q0 q1 q2 k0 k1 k2
  generalize (stampR K S zs).1 = C at *
  generalize (stampR K S zs).2 = Z at *
  have Lt2 := hid (hLent.below hb2)
  have HG1 : Hid (G < w1.heap.size) := by
    obtain ⟨ys, hB', _⟩ := hLent.buf
    exact hB'.lt
  have Hal := hid hal
  have HG := hid hG
  have Hb1 := hid hb1
  have Hb2 := hid hb2
  clear hLent hal hG hb1 hb2
  go_wp2_with fail
  refine Calls.mono HRf.out ?_
  rintro e w3 ⟨a2, n2, c2, rfl, hR3, hb3⟩
  have HR3 := hid hR3
  have Hb3 := hid hb3
  have Hj : Hid (w3.cell? ⟨w.heap.size, 2, none⟩ = some (.slice a n c)) := (hb3.cell (p := ⟨w.heap.size, 2, none⟩) (by exact Nat.lt_of_lt_of_le Hlt2.out Hb2.out.size)).trans j2
  clear hR3 hb3 j0 j1 j2 HRf
  go_wp2_with fail
  refine (num_any C w3).mono ?_
  rintro e w5 ⟨rfl, e5⟩
  have e6 := e5.symm
  subst e6
  clear e5
  have RZ : Hid (Rd w3.heap.size w3 al Z.length Z) := by
    show Rd _ _ _ _ _
    rcases Hal.out with ⟨e1, e2⟩ | ⟨e1, e2⟩
    · exact ⟨rfl, hZb, .inl (by rw [e2]; rfl)⟩
    · rw [e1]
      have := e2.but (But.of_below (X := fun _ => False) Hb3.out) (fun h => h)
      exact Rd.of_blk this hZb this.lt
  go_wp2_with fail
  refine (SameBytes_eq w3.heap.size al a2 Z.length Z.length n2 c2 Z w3 RZ.out HR3.out).mono ?_
  rintro e w5 ⟨rfl, e5⟩
  have e6 := e5.symm
  subst e6
  clear e5
  have j2 := Hj.out
  have HBk := hid (Back_any L G M a n c zs w3 (by omega) (Lt2.out.below Hb3.out) (R2.out.but (But.of_below Hb3.out)))
  clear RZ HR3
  go_wp2_with fail
  refine Calls.mono HBk.out ?_
  rintro e w4 ⟨rfl, hS4, hb4⟩
  obtain ⟨h1, h2, h3, h4, h5⟩ := Hh.out
  have hXG : ¬ X G := by
    intro hx
    rcases HG.out with hg | hg
    · exact h3 G (.inr hg) hx
    · have h6 := (h4 G hx).2.2
      have h7 : wa.heap.size ≤ G := hg
      omega
  have hG1 : G < w1.heap.size := HG1.out
  have z1 := Hb1.out.size
  have z2 := Hb2.out.size
  have z3 := Hb3.out.size
  have z4 := hb4.size
  have hz1 : w.heap.size < w1.heap.size := Hlt2.out
  have bk4 : Bok B X w4 b cnt tot nK := by
    refine (((((h2.but A0 (fun _ _ _ h => h)).but (But.refl (fun _ => False) wa).drew (fun _ _ _ h => h)).but Hb1.out (fun x _ hx hl => h3 x hl hx)).but (But.of_below (X := fun _ => False) Hb2.out) (fun _ _ _ h => h)).but (But.of_below (X := fun _ => False) Hb3.out) (fun _ _ _ h => h)).but hb4 (fun x _ hx e => hXG (by rw [← e]; exact hx))
  have HO := hid (Own_any B X w4 b cnt tot nK al Z n (by omega) (by omega) (by omega) (by omega) (by omega) (by omega) (by omega) bk4 hZb (by
    rcases Hal.out with ⟨e1, e2⟩ | ⟨e1, e2⟩
    · exact .inl ⟨e1, e2⟩
    · refine .inr ⟨w1.heap.size, e1, (e2.but (But.of_below (X := fun _ => False) Hb3.out) (fun h => h)).but hb4 (fun e => by omega), fun hx => ?_, by omega⟩
      have := (h4 _ hx).2.2
      omega))
  have U4 : Hid (But Y w w4) := by
    show But Y w w4
    have u1 : But Y w w1 := (((But.refl Y w).comp A0 (fun _ _ h => h.elim)).comp (But.refl (fun _ => False) wa).drew (fun _ _ h => h.elim)).comp Hb1.out (fun x _ h => (h5 x h).1)
    have u3 : But Y w w3 := (u1.trans (But.of_below Hb2.out)).trans (But.of_below Hb3.out)
    refine u3.comp hb4 (fun x hx e => ?_)
    subst e
    rcases HG.out with hg | hg
    · exact (h5 x (.inr hg)).1
    · have h7 : wa.heap.size ≤ x := hg
      omega
  have hGw : w.heap.size ≠ G := by
    intro e
    rcases HG.out with hg | hg
    · have := h1.there (x := G) (.inr hg)
      omega
    · have h7 : wa.heap.size ≤ G := hg
      omega
  have j4 : w4.cell? ⟨w.heap.size, 2, none⟩ = some (.slice a n c) := (hb4.cell (p := ⟨w.heap.size, 2, none⟩) (by show w.heap.size < w3.heap.size; omega) (by exact hGw)).trans j2
  have hS5 : Hid (LS w4 L (.slice (some ⟨G, 0, none⟩) M M)) := hS4
  clear hS4 hb4 bk4 HBk Lt2
  clear j2
  have Hz := hid (And.intro z1 (And.intro z2 (And.intro z3 z4)))
  have HX := hid (And.intro hXG (And.intro hG1 hGw))
  clear z1 z2 z3 z4 hXG h1 h2 h3 h4 h5
  go_wp2_with fail
  refine Calls.mono HO.out ?_
  rintro e w6 ⟨rfl, nK', hnK', bk6, u6⟩
  have hHo := hid (Holds_any B _ w6 b (cnt + 1) (tot + Z.length) nK' (by omega) bk6.cut)
  have U6 := hid u6
  clear bk6 u6 HO
  go_wp2_with fail
  refine Calls.mono hHo.out ?_
  rintro e w7 ⟨rfl, bk7, u7⟩
  have K7 := hid bk7
  have U7 := hid u7
  clear bk7 u7 hHo j4
  go_wp2
  go_ret
  obtain ⟨h1, h2, h3, h4, h5⟩ := Hh.out
  obtain ⟨z1, z2, z3, z4⟩ := Hz.out
  obtain ⟨hXG, hG1, hGw⟩ := HX.out
  have z6 := U6.out.size
  have hz1 : w.heap.size < w1.heap.size := Hlt2.out
  have hown : ∀ x, (Value.slice al Z.length Z.length).ownBlock = some x → x = w1.heap.size := by
    intro x hx
    rcases Hal.out with ⟨e1, _⟩ | ⟨e1, _⟩
    · rw [e1] at hx; cases hx
    · rw [e1] at hx; cases hx; rfl
  have hLw := h1.lt
  have hLX : ∀ x, XL L (.slice (some ⟨G, 0, none⟩) M M) x → x < w1.heap.size ∧ ¬ X x := by
    intro x hx
    rcases hx with rfl | hx
    · exact ⟨by omega, h3 x (.inl rfl)⟩
    · cases hx; exact ⟨hG1, hXG⟩
  refine ⟨rfl, tot + Z.length, nK', by omega, hnK', ⟨.slice (some ⟨G, 0, none⟩) M M, _, (hS5.out.but U6.out ?_).but U7.out ?_, K7.out, ?_, ?_, ?_⟩, (U4.out.comp U6.out ?_).comp U7.out ?_⟩
  · rintro x hx (q | q)
    · exact (hLX x hx).2 q
    · have := hown x q
      have := (hLX x hx).1
      omega
  · rintro x hx ⟨q | q | q, _⟩
    · exact (hLX x hx).2 q
    · have := hown x q
      have := (hLX x hx).1
      omega
    · have := (hLX x hx).1
      omega
  · rintro x hx ⟨q | q | q, _⟩
    · exact (hLX x hx).2 q
    · have := hown x q
      have := (hLX x hx).1
      omega
    · have := (hLX x hx).1
      omega
  · rintro x ⟨q | q | q, hlt⟩
    · exact ⟨.inl (h4 x q).1, (h4 x q).2.1, Nat.lt_of_lt_of_le hlt U7.out.size⟩
    · have := hown x q
      exact ⟨.inr (by omega), by omega, Nat.lt_of_lt_of_le hlt U7.out.size⟩
    · exact ⟨.inr (by omega), by omega, Nat.lt_of_lt_of_le hlt U7.out.size⟩
  · rintro x (rfl | hx)
    · exact ⟨.inl (h5 x (.inl rfl)).1, (h5 x (.inl rfl)).2⟩
    · have e : x = G := by cases hx; rfl
      rcases HG.out with hg | hg
      · rw [e]
        exact ⟨.inl (h5 G (.inr hg)).1, (h5 G (.inr hg)).2⟩
      · have h7 : wa.heap.size ≤ G := hg
        exact ⟨.inr (by omega), by omega⟩
  · rintro x hx (q | q)
    · exact (h4 x q).1
    · have := hown x q
      omega
  · rintro x hx ⟨q | q | q, _⟩
    · exact (h4 x q).1
    · have := hown x q
      omega
    · omega

end Go.Proofs.Yteaebdonnicbkaa
