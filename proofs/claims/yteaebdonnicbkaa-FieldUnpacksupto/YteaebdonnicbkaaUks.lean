/-
  FieldUnpacks: the record of numbers, the lender and the shelf side by side; one Unpack held against the document's (function 30).
-/
import Derived.Test.YteaebdonnicbkaaIn9
import Derived.Test.YteaebdonnicbkaaUnQ
import Derived.Test.YteaebdonnicbkaaShg
import Derived.Test.YteaebdonnicbkaaSums
namespace Go.Proofs.Yteaebdonnicbkaa
open Go.RowKit

/-- the record in block q, the lender in block L, the shelf in block s; Y: blocks among which theirs are -/
def Stu (B : Nat) (Y : Nat → Prop) (w : World) (L s q cnt tot lk : Nat) : Prop :=
  ∃ bv sv κ, LS w L bv ∧ SS1 w s sv ∧ InS B κ w q cnt tot lk ∧ (∀ x, XL L bv x → ¬ XL s sv x) ∧ (∀ x, x < w.heap.size → κ x ≠ 200 → Y x ∧ B ≤ x) ∧ (∀ x, XL L bv x → κ x = 200 ∧ Y x ∧ B ≤ x) ∧ (∀ x, XL s sv x → κ x = 200 ∧ Y x ∧ B ≤ x)
theorem Stu.mono {B : Nat} {Y Y' : Nat → Prop} {w : World} {L s q cnt tot lk : Nat} (h : Stu B Y w L s q cnt tot lk) (hy : ∀ x, Y x → Y' x) : Stu B Y' w L s q cnt tot lk := by
  obtain ⟨bv, sv, κ, h1, h2, h3, h4, h5, h6, h7⟩ := h
  exact ⟨bv, sv, κ, h1, h2, h3, h4, fun x hx hk => ⟨hy x (h5 x hx hk).1, (h5 x hx hk).2⟩, fun x hx => ⟨(h6 x hx).1, hy x (h6 x hx).2.1, (h6 x hx).2.2⟩, fun x hx => ⟨(h7 x hx).1, hy x (h7 x hx).2.1, (h7 x hx).2.2⟩⟩
/-- tags of what comes later -/
def nrm (κ : Nat → Nat) (S x : Nat) : Nat := if x < S then κ x else 200
theorem nrm_lo (κ : Nat → Nat) {S x : Nat} (h : x < S) : nrm κ S x = κ x := if_pos h
theorem nrm_hi (κ : Nat → Nat) {S x : Nat} (h : S ≤ x) : nrm κ S x = 200 := if_neg (by omega)
theorem nrm_200 {κ : Nat → Nat} {S x : Nat} (h : κ x = 200) : nrm κ S x = 200 := by unfold nrm; split <;> simp [h]
theorem Stu.but {B : Nat} {Y Z : Nat → Prop} {w w' : World} {L s q cnt tot lk : Nat} (h : Stu B Y w L s q cnt tot lk) (hb : But Z w w') (hz : ∀ x, Y x → ¬ Z x) : Stu B Y w' L s q cnt tot lk := by
  obtain ⟨bv, sv, κ, h1, h2, h3, h4, h5, h6, h7⟩ := h
  refine ⟨bv, sv, nrm κ w.heap.size, h1.but hb (fun x hx => hz x (h6 x hx).2.1), h2.but hb (fun x hx => hz x (h7 x hx).2.1), h3.kept hb (fun x hx hZ => ?_) (fun x hx _ => nrm_lo κ hx), h4, fun x hx hk => ?_, fun x hx => ⟨nrm_200 (h6 x hx).1, (h6 x hx).2⟩, fun x hx => ⟨nrm_200 (h7 x hx).1, (h7 x hx).2⟩⟩
  · by_cases e : κ x = 200
    · exact e
    · exact absurd hZ (hz x (h5 x hx e).1)
  · unfold nrm at hk
    split at hk
    · rename_i e; exact h5 x e hk
    · exact absurd rfl hk

theorem RdN.nxt {Y : Nat → Prop} {w w' : World} {a : Option Addr} {n : Nat} {zs : List Int} (h : RdN Y w a n zs) (hb : But Y w w') : RdN (fun x => Y x ∨ w.heap.size ≤ x) w' a n zs := by
  obtain ⟨h1, h2, h3⟩ := h
  refine ⟨h1, h2, ?_⟩
  rcases h3 with h3 | ⟨b, off, h4, h5, h6, h7⟩
  · exact .inl h3
  · exact .inr ⟨b, off, h4, Nat.lt_of_lt_of_le h5 hb.size, fun q => q.elim h6 (fun q => by omega), fun t ht => (hb.cell (by exact h5) (by exact h6)).trans (h7 t ht)⟩
theorem InS.kq {B : Nat} {κ : Nat → Nat} {w : World} {q cnt tot : Nat} {lk : Int} (h : InS B κ w q cnt tot lk) : κ q = 0 := by
  obtain ⟨n, nK, fr, wa, ba, ke, ma, fv, hv, kv, bs, ms, Z, K, h, _⟩ := h
  exact h.kq

set_option maxRecDepth 100000 in
set_option maxHeartbeats 4000000 in
theorem unpacks_any (B : Nat) (Y : Nat → Prop) (w : World) (L s q cnt tot lk : Nat) (a : Option Addr) (n c : Nat) (zs : List Int) (a2 : Option Addr) (m c2 : Nat) (ws : List Int) (hB : B ≤ w.heap.size) (hc : cnt ≤ 8388000) (ht : tot ≤ 562949953421312) (hlk : lk ≤ 8388000) (hn : n ≤ 1048576) (hm : m ≤ 1048576)
    (hcap : n ≤ c) (hnil2 : a2 = none → c2 = 0) (h : Stu B Y w L s q cnt tot lk) (hR : RdN Y w a n zs) (hR2 : RIN Y w a2 m ws) :
    Calls Try.prog 30 #[.agg #[.slice a n c, .slice a2 m c2], .pointer (some ⟨L, 0, none⟩), .pointer (some ⟨s, 0, none⟩), .pointer (some ⟨q, 0, none⟩)] w fun e w' => e = .returned (.bool true) ∧
      ∃ tot', tot' ≤ tot + 1048576 ∧ Stu B (fun x => Y x ∨ w.heap.size ≤ x) w' L s q (cnt + 1) tot' (lk + 1) ∧ But Y w w' := by
  obtain ⟨bv, sv, κ, h1, h2, h3, h4, h5, h6, h7⟩ := h
  obtain ⟨wa, hwa⟩ : ∃ wa, wa = w.alloc (.cells #[.slice a n c, .slice a2 m c2] 72) := ⟨_, rfl⟩
  have A0 : But (fun _ => False) w wa := by rw [hwa]; exact (But.refl _ _).alloc _
  have hsz : wa.heap.size = w.heap.size + 1 := by rw [hwa]; simp
  have q0 : wa.cell? ⟨w.heap.size, 0, none⟩ = some (.slice a n c) := by rw [hwa]; exact World.cell?_alloc_at _ _ _ _ rfl
  have q1 : wa.cell? ⟨w.heap.size, 1, none⟩ = some (.slice a2 m c2) := by rw [hwa]; exact World.cell?_alloc_at _ _ _ _ rfl
  have hF : ∀ (P : Nat → Prop) x, P x → ¬ (fun _ : Nat => False) x := fun _ _ _ h => h
  have h1a := h1.but A0.drew (hF _)
  have hRa := (hR.mono (Y := XL L bv) (fun x _ hx => (h6 x hx).2.1)).but ((A0.drew).mono (fun _ _ h => h.elim))
  have HLd := hid (Lend_any L bv a n c zs wa.drew (by omega) h1a hRa)
  have Hlt := hid (show w.heap.size < wa.drew.heap.size by show w.heap.size < wa.heap.size; omega)
  have Hxx := hid (show ¬ XL L bv w.heap.size from fun h => by have := h1.there h; omega)
  have Hxs := hid (show ¬ XL s sv w.heap.size from fun h => by have := h2.there h; omega)
  have HR := hid (show ∀ w1 G, But (XL L bv) wa.drew w1 → (bv.ownBlock = some G ∨ wa.drew.heap.size ≤ G) → RdN (fun x => x = L ∨ x = G) w1 a n zs from fun w1 G hb hG => hRa.apart hb hG)
  /- what holds behind the first lending -/
  have HP := hid (show ∀ w1, But (XL L bv) wa.drew w1 → SS1 w1 s sv ∧ RIN (XL s sv) w1 a2 m ws from fun w1 hb =>
    ⟨(h2.but A0.drew (hF _)).but hb (fun x hx hl => h4 x hl hx), by
      have r1 := (hR2.but ((A0.drew).mono (fun _ _ h => h.elim))).but (hb.mono (Y := Y) (fun x _ hx => (h6 x hx).2.1))
      exact r1.mono (fun x _ hx => (h7 x hx).2.1)⟩)
  /- the lender's blocks are not the shelf's -/
  have HN := hid (show ∀ G, (bv.ownBlock = some G ∨ wa.drew.heap.size ≤ G) → ¬ XL s sv L ∧ ¬ XL s sv G from fun G hG => ⟨h4 L (.inl rfl), fun hx => by
    rcases hG with e | e
    · exact h4 G (.inr e) hx
    · have := h2.there hx
      have e' : wa.heap.size ≤ G := e
      omega⟩)
  have Hh := hid (And.intro h1 (And.intro h2 (And.intro h3 (And.intro h4 (And.intro h5 (And.intro h6 h7))))))
  have HY := hid (And.intro hR hR2)
  have HlL := hid h1.lt
  clear h1 h2 h3 h4 h5 h6 h7 h1a hRa hF hR hR2
  go_enter Try.func30, Try.ntmps30
  go_wp2_with fail
  rw [← hwa]
  have Hwa := hid hwa
  clear hwa
  go_region_held3 (fun w' => w'.cell? ⟨w.heap.size, 0, none⟩ = some (.slice a n c) ∧ w'.cell? ⟨w.heap.size, 1, none⟩ = some (.slice a2 m c2)) (first | (exact ⟨by assumption, by assumption⟩) | go_keep)
    ((first
      | (go_at_call 23; refine Calls.mono HLd.out ?_; rintro e w1 ⟨G, M, rfl, hLent, hG, hb1⟩
         have k0 : w1.cell? ⟨w.heap.size, 0, none⟩ = some (.slice a n c) := (hb1.cell (p := ⟨w.heap.size, 0, none⟩) (by exact Hlt.out) (by exact Hxx.out)).trans q0
         have k1 : w1.cell? ⟨w.heap.size, 1, none⟩ = some (.slice a2 m c2) := (hb1.cell (p := ⟨w.heap.size, 1, none⟩) (by exact Hlt.out) (by exact Hxx.out)).trans q1
         have Hlt2 : Hid (w.heap.size < w1.heap.size) := Nat.lt_of_lt_of_le Hlt.out hb1.size
         have L1 := hid (And.intro hLent (And.intro hG hb1))
         have R1 := hid (HR.out w1 G hb1 hG)
         have HSl := hid (slend_any s sv a2 m c2 ws w1 (by omega) hnil2 (HP.out w1 hb1).1 (HP.out w1 hb1).2)
         clear hLent hG hb1)
      | (go_at_call 46; refine Calls.mono HSl.out ?_; rintro e w2 ⟨G2, M2, rfl, hSh, hG2, hb2⟩
         have j0 : w2.cell? ⟨w.heap.size, 0, none⟩ = some (.slice a n c) := (hb2.cell (p := ⟨w.heap.size, 0, none⟩) (by exact Hlt2.out) (by exact Hxs.out)).trans k0
         have j1 : w2.cell? ⟨w.heap.size, 1, none⟩ = some (.slice a2 m c2) := (hb2.cell (p := ⟨w.heap.size, 1, none⟩) (by exact Hlt2.out) (by exact Hxs.out)).trans k1
         have Hlt3 : Hid (w.heap.size < w2.heap.size) := Nat.lt_of_lt_of_le Hlt2.out hb2.size
         have S1 := hid (And.intro hSh (And.intro hG2 hb2))
         have LL2 := hid (L1.out.1.but hb2 (HN.out G L1.out.2.1).1 (HN.out G L1.out.2.1).2)
         have HUn := hid (Unpack_any (some ⟨G, 0, none⟩) (some ⟨G2, 0, none⟩) n (2 * n + 70) m M2 zs ws w2 (by omega) (by omega) (LL2.out.rd R1.out.1 R1.out.2.1) (hSh.rd (HP.out w1 L1.out.2.2).2.1))
         clear hSh hG2 hb2)
      | (go_at_call 18; refine Calls.mono HUn.out ?_; rintro e w3 ⟨al, rfl, hal, hb3⟩
         have i0 : w3.cell? ⟨w.heap.size, 0, none⟩ = some (.slice a n c) := (hb3.cell (p := ⟨w.heap.size, 0, none⟩) (by exact Hlt3.out)).trans j0
         have i1 : w3.cell? ⟨w.heap.size, 1, none⟩ = some (.slice a2 m c2) := (hb3.cell (p := ⟨w.heap.size, 1, none⟩) (by exact Hlt3.out)).trans j1
         have A2 := hid (And.intro hal hb3)
         clear hal hb3)))
  obtain ⟨hal, hb3⟩ := A2.out
  obtain ⟨hSh, hG2, hb2⟩ := S1.out
  obtain ⟨hLent, hG, hb1⟩ := L1.out
  obtain ⟨hR, hR2⟩ := HY.out
  obtain ⟨h1, h2, h3, h4, h5, h6, h7⟩ := Hh.out
  have hTY : ∀ x, (XL L bv x ∨ XL s sv x) → Y x := fun x h => h.elim (fun h => (h6 x h).2.1) (fun h => (h7 x h).2.1)
  have u1 : But (fun x => XL L bv x ∨ XL s sv x) w w1 := (((But.refl (fun x => XL L bv x ∨ XL s sv x) w).comp A0 (fun _ _ h => h.elim)).comp (But.refl (fun _ => False) wa).drew (fun _ _ h => h.elim)).comp hb1 (fun x _ h => .inl h)
  have u3 : But (fun x => XL L bv x ∨ XL s sv x) w w3 := (u1.comp hb2 (fun x _ h => .inr h)).trans (But.of_below hb3)
  have R3 : RdN (fun x => XL L bv x ∨ XL s sv x) w3 a n zs := (hR.mono (fun x _ h => hTY x h)).but u3
  have RI3 : RIN (fun x => XL L bv x ∨ XL s sv x) w3 a2 m ws := (hR2.mono (fun x _ h => hTY x h)).but u3
  have HRf := hid (refUnpack_any a a2 n c m c2 zs ws w3 (by omega) (by omega) hcap R3.rd RI3.rd)
  have hZl := unpk_len zs ws
  have hwl := hR2.1
  have U3 := hid u3
  have hGlt : G < w1.heap.size := by
    obtain ⟨ys, hB', _⟩ := hLent.buf
    exact hB'.lt
  have hG2lt : G2 < w2.heap.size := hSh.lt
  have Hal := hid hal
  have Hb1 := hid hb1
  have Hb2 := hid hb2
  have Hb3 := hid hb3
  have HG := hid hG
  have HG2 := hid hG2
  have HSh := hid hSh
  clear hal hb3 hSh hG2 hb2 hLent hG hb1 hR hR2 h1 h2 h3 h4 h5 h6 h7 hTY u1 u3 R3 RI3 A2 S1 L1 HUn HSl HLd q0 q1 k0 k1 j0 j1
  generalize (unpkR zs ws).1 = C at *
  generalize (unpkR zs ws).2 = Z at *
  go_wp2_with fail
  refine Calls.mono HRf.out ?_
  rintro e w4 ⟨a3, n3, c3, rfl, hR4, hb4⟩
  obtain rfl : Z.length = n3 := hR4.1
  have HR4 := hid hR4
  have Hb4 := hid hb4
  have hw3 : w.heap.size < w3.heap.size := Nat.lt_of_lt_of_le Hlt3.out Hb3.out.size
  have e0 : w4.cell? ⟨w.heap.size, 0, none⟩ = some (.slice a n c) := (hb4.cell (p := ⟨w.heap.size, 0, none⟩) hw3).trans i0
  have e1 : w4.cell? ⟨w.heap.size, 1, none⟩ = some (.slice a2 m c2) := (hb4.cell (p := ⟨w.heap.size, 1, none⟩) hw3).trans i1
  clear hR4 hb4 i0 i1 HRf
  go_wp2_with fail
  refine (num_any C w4).mono ?_
  rintro e w5 ⟨rfl, e5⟩
  have e6 := e5.symm
  subst e6
  clear e5
  have HB4 : Hid ((al = none ∧ Z = []) ∨ ∃ g, al = some ⟨g, 0, none⟩ ∧ w2.heap.size ≤ g ∧ Blk .i64 3 w4 g Z) := by
    show _ ∨ _
    rcases Hal.out with h | ⟨g, g1, g2, g3⟩
    · exact .inl h
    · exact .inr ⟨g, g1, g2, g3.but (But.of_below (X := fun _ => False) Hb4.out) (fun h => h)⟩
  have RZ : Hid (RdI w4.heap.size w4 al Z.length Z) := by
    show RdI _ _ _ _ _
    rcases HB4.out with ⟨g1, g2⟩ | ⟨g, g1, g2, g3⟩
    · exact ⟨rfl, .inl (by rw [g2]; rfl)⟩
    · rw [g1]; exact RdI.of_blk g3 g3.lt
  go_wp2_with fail
  refine (SameInts_eq w4.heap.size al a3 Z.length Z.length c3 Z w4 (Nat.le_refl _) (by omega) RZ.out HR4.out).mono ?_
  rintro e w5 ⟨rfl, hb5⟩
  have Hb5 := hid hb5
  have hw4 : w.heap.size < w4.heap.size := Nat.lt_of_lt_of_le hw3 Hb4.out.size
  have d0 : w5.cell? ⟨w.heap.size, 0, none⟩ = some (.slice a n c) := (hb5.cell (p := ⟨w.heap.size, 0, none⟩) hw4).trans e0
  have d1 : w5.cell? ⟨w.heap.size, 1, none⟩ = some (.slice a2 m c2) := (hb5.cell (p := ⟨w.heap.size, 1, none⟩) hw4).trans e1
  clear hb5 e0 e1 RZ HR4
  have U5 := hid ((U3.out.trans (But.of_below Hb4.out)).trans (But.of_below Hb5.out))
  obtain ⟨h1, h2, h3, h4, h5, h6, h7⟩ := Hh.out
  have hTY : ∀ x, (XL L bv x ∨ XL s sv x) → Y x := fun x h => h.elim (fun h => (h6 x h).2.1) (fun h => (h7 x h).2.1)
  have R5 := hid ((HY.out.1.mono (fun x _ h => hTY x h)).nxt U5.out)
  have RI5 := hid ((HY.out.2.mono (fun x _ h => hTY x h)).next U5.out)
  have HBk := hid (Back_any L G M a n c zs w5 (by omega) (((LL2.out.below Hb3.out).below Hb4.out).below Hb5.out) (R5.out.mono (fun x _ hx => by
    rcases hx with rfl | rfl
    · exact .inl (.inl (.inl rfl))
    · rcases HG.out with e | e
      · exact .inl (.inl (.inr e))
      · exact .inr (by have e' : wa.heap.size ≤ _ := e; omega))))
  have hsG : s ≠ G := fun e => (HN.out G HG.out).2 (.inl e.symm)
  have hGG : G2 ≠ G := fun e => by
    rcases HG2.out with e2 | e2
    · exact (HN.out G HG.out).2 (.inr (e ▸ e2))
    · omega
  clear h1 h2 h3 h4 h5 h6 h7 hTY
  go_wp2_with fail
  refine Calls.mono HBk.out ?_
  rintro e w6 ⟨rfl, hS6, hb6⟩
  have HS6 := hid hS6
  have Hb6 := hid hb6
  have hwG : w.heap.size ≠ G := fun e => by
    rcases HG.out with e2 | e2
    · exact Hxx.out (.inr (e ▸ e2))
    · have e' : wa.heap.size ≤ _ := e2
      omega
  have hw5 : w.heap.size < w5.heap.size := Nat.lt_of_lt_of_le hw4 Hb5.out.size
  have b1 : w6.cell? ⟨w.heap.size, 1, none⟩ = some (.slice a2 m c2) := (hb6.cell (p := ⟨w.heap.size, 1, none⟩) hw5 (by exact hwG)).trans d1
  have Sh6 := hid ((((HSh.out.but (But.of_below (X := fun _ => False) Hb3.out) (fun h => h) (fun h => h)).but (But.of_below (X := fun _ => False) Hb4.out) (fun h => h) (fun h => h)).but (But.of_below (X := fun _ => False) Hb5.out) (fun h => h) (fun h => h)).but hb6 hsG hGG)
  have HTG : ∀ x, x < w.heap.size → x = G → (XL L bv x ∨ XL s sv x) := fun x hx e => by
    subst e
    rcases HG.out with e2 | e2
    · exact .inl (.inr e2)
    · have e' : wa.heap.size ≤ _ := e2
      omega
  have U6 := hid (U5.out.comp hb6 (fun x hx e => HTG x hx e))
  have RI6 : Hid (RdI w6.heap.size w6 a2 m ws) := by
    have hTY : ∀ x, (XL L bv x ∨ XL s sv x) → Y x := fun x h => h.elim (fun h => (Hh.out.2.2.2.2.2.1 x h).2.1) (fun h => (Hh.out.2.2.2.2.2.2 x h).2.1)
    exact ((HY.out.2.mono (fun x _ h => hTY x h)).but U6.out).rd
  have HSb := hid (sback_any s G2 M2 m c2 a2 ws w6 (by omega) Sh6.out RI6.out)
  clear hS6 hb6 d0 d1 HBk R5 RI5
  go_wp2_with fail
  refine Calls.mono HSb.out ?_
  rintro e w7 ⟨rfl, hb7⟩
  have Hb7 := hid hb7
  have U7 := hid (U6.out.trans (But.of_below hb7))
  clear hb7 b1 HSb
  have z1 := Hb1.out.size
  have z2 := Hb2.out.size
  have z3 := Hb3.out.size
  have z4 := Hb4.out.size
  have z5 := Hb5.out.size
  have z6 := Hb6.out.size
  have z7 := Hb7.out.size
  have z0 : w.heap.size < w1.heap.size := Hlt2.out
  have hown : ∀ x, (Value.slice al Z.length Z.length).ownBlock = some x → w2.heap.size ≤ x := fun x hx => by
    rcases HB4.out with ⟨g1, _⟩ | ⟨g, g1, g2, _⟩
    · rw [g1] at hx; cases hx
    · rw [g1] at hx; cases hx; exact g2
  have IS7 : InS B (nrm κ w.heap.size) w7 q cnt tot lk := Hh.out.2.2.1.kept U7.out (fun x _ hx => hx.elim (fun h => (Hh.out.2.2.2.2.2.1 x h).1) (fun h => (Hh.out.2.2.2.2.2.2 x h).1)) (fun x hx _ => nrm_lo κ hx)
  have HO := hid (iown_any B (nrm κ w.heap.size) w7 q cnt tot lk al Z (by omega) (by omega) (by omega) IS7 (by
    rcases HB4.out with h | ⟨g, g1, g2, g3⟩
    · exact .inl h
    · exact .inr ⟨g, g1, ((g3.but (But.of_below (X := fun _ => False) Hb5.out) (fun h => h)).but Hb6.out (fun e => by omega)).but (But.of_below (X := fun _ => False) Hb7.out) (fun h => h), nrm_hi κ (by omega), by omega⟩))
  have HOw := hid hown
  have Hz := hid (And.intro z1 (And.intro z2 (And.intro z3 (And.intro z4 (And.intro z5 (And.intro z6 z7))))))
  clear z1 z2 z3 z4 z5 z6 z7 hown IS7
  go_wp2_with fail
  refine Calls.mono HO.out ?_
  rintro e w8 ⟨rfl, κ', hI8, h200, u8⟩
  have kq := hI8.kq
  have HH8 := hid (iholds_any B κ' w8 q (cnt + 1) (tot + Z.length) lk (by omega) (by omega) hI8)
  have H200 := hid h200
  have U8 := hid u8
  clear hI8 h200 u8 HO
  go_wp2_with fail
  refine Calls.mono HH8.out ?_
  rintro e w9 ⟨rfl, hI9, u9⟩
  have HI9 := hid hI9
  have U9 := hid u9
  clear hI9 u9 HH8
  go_wp2
  go_ret
  obtain ⟨h1, h2, h3, h4, h5, h6, h7⟩ := Hh.out
  obtain ⟨z1, z2, z3, z4, z5, z6, z7⟩ := Hz.out
  have hown := HOw.out
  have z8 := U8.out.size
  have hk' : ∀ x, x < w2.heap.size → nrm κ w.heap.size x = 200 → κ' x = 200 := fun x hx hk => H200.out x (by omega) hk (fun e => by have := hown x e; omega)
  have hLw := h1.lt
  have XG : ∀ x, XL L (.slice (some ⟨G, 0, none⟩) M M) x → x < w1.heap.size ∧ nrm κ w.heap.size x = 200 ∧ (Y x ∨ w.heap.size ≤ x) ∧ B ≤ x := by
    intro x hx
    rcases hx with rfl | hx
    · exact ⟨by omega, nrm_200 (h6 x (.inl rfl)).1, .inl (h6 x (.inl rfl)).2.1, (h6 x (.inl rfl)).2.2⟩
    · have ex : x = G := by cases hx; rfl
      rw [ex]
      rcases HG.out with e | e
      · exact ⟨hGlt, nrm_200 (h6 G (.inr e)).1, .inl (h6 G (.inr e)).2.1, (h6 G (.inr e)).2.2⟩
      · have e' : wa.heap.size ≤ G := e
        exact ⟨hGlt, nrm_hi κ (by omega), .inr (by omega), by omega⟩
  have XS : ∀ x, XL s (.slice (some ⟨G2, 0, none⟩) M2 M2) x → x < w2.heap.size ∧ nrm κ w.heap.size x = 200 ∧ (Y x ∨ w.heap.size ≤ x) ∧ B ≤ x := by
    intro x hx
    rcases hx with rfl | hx
    · have := h2.there (x := x) (.inl rfl)
      exact ⟨by omega, nrm_200 (h7 x (.inl rfl)).1, .inl (h7 x (.inl rfl)).2.1, (h7 x (.inl rfl)).2.2⟩
    · have ex : x = G2 := by cases hx; rfl
      rw [ex]
      rcases HG2.out with e | e
      · exact ⟨hG2lt, nrm_200 (h7 G2 (.inr e)).1, .inl (h7 G2 (.inr e)).2.1, (h7 G2 (.inr e)).2.2⟩
      · exact ⟨hG2lt, nrm_hi κ (by omega), .inr (by omega), by omega⟩
  have hno : ∀ x, x < w2.heap.size → nrm κ w.heap.size x = 200 → ¬ (nrm κ w.heap.size x ≤ 90 ∨ (Value.slice al Z.length Z.length).ownBlock = some x) := fun x hx hk h => by
    rcases h with h | h
    · omega
    · have := hown x h; omega
  have hnq : ∀ x, x < w2.heap.size → nrm κ w.heap.size x = 200 → ¬ x = q := fun x hx hk e => by
    have := hk' x hx hk
    rw [e, kq] at this
    omega
  refine ⟨rfl, tot + Z.length, by omega, ⟨.slice (some ⟨G, 0, none⟩) M M, .slice (some ⟨G2, 0, none⟩) M2 M2, κ', ((HS6.out.but (But.of_below (X := fun _ => False) Hb7.out) (fun _ _ h => h)).but U8.out ?_).but U9.out ?_, ((Sh6.out.done.but (But.of_below (X := fun _ => False) Hb7.out) (fun _ _ h => h)).but U8.out ?_).but U9.out ?_, HI9.out, ?_, ?_, ?_, ?_⟩, (((U7.out.mono ?_).comp U8.out ?_).comp U9.out ?_)⟩
  · intro x hx
    exact hno x (by have := (XG x hx).1; omega) (XG x hx).2.1
  · intro x hx
    exact hnq x (by have := (XG x hx).1; omega) (XG x hx).2.1
  · intro x hx
    exact hno x (XS x hx).1 (XS x hx).2.1
  · intro x hx
    exact hnq x (XS x hx).1 (XS x hx).2.1
  · intro x hx hy
    rcases hx with rfl | hx
    · rcases hy with hy | hy
      · exact h4 x (.inl rfl) (.inl hy)
      · have ex : x = G2 := by cases hy; rfl
        rcases HG2.out with e | e
        · exact h4 x (.inl rfl) (.inr (by rw [ex]; exact e))
        · omega
    · cases hx
      rcases hy with hy | hy
      · exact hsG hy.symm
      · cases hy; exact hGG rfl
  · intro x hx hk
    by_cases e : x < w.heap.size
    · have := h5 x e (fun hk2 => hk (hk' x (by omega) (nrm_200 hk2)))
      exact ⟨.inl this.1, this.2⟩
    · exact ⟨.inr (by omega), by omega⟩
  · intro x hx
    exact ⟨hk' x (by have := (XG x hx).1; omega) (XG x hx).2.1, (XG x hx).2.2⟩
  · intro x hx
    exact ⟨hk' x (XS x hx).1 (XS x hx).2.1, (XS x hx).2.2⟩
  · intro x _ hx
    exact hx.elim (fun h => (h6 x h).2.1) (fun h => (h7 x h).2.1)
  · intro x hx h
    rcases h with h | h
    · rw [nrm_lo κ hx] at h
      exact (h5 x hx (by omega)).1
    · have := hown x h; omega
  · intro x hx e
    subst e
    by_cases hk2 : κ x = 200
    · have := hk' x (by omega) (nrm_200 hk2)
      omega
    · exact (h5 x hx hk2).1

end Go.Proofs.Yteaebdonnicbkaa
