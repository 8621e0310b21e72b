/-
  A desk: crash (function 42).
-/
import Derived.Test.YteokekllbpkemaaDs2
namespace Go.Proofs.Yteokekllbpkemaa
open Go.RowKit

/-- the places lie ready -/
structure Kp (D : Value × Value) (w : World) (x : Nat) (bv : Value) (N : Int) (G M : Nat) (ys : List Int) : Prop where
  lnd : Lnd (D.1, D.2, .slice (some ⟨G, 0, none⟩) M M) w x bv N
  blk : Blk .i64 3 w G ys
  len : ys.length = M
  ne : x ≠ G
theorem Kp.set {D : Value × Value} {w : World} {x : Nat} {bv : Value} {N : Int} {G M : Nat} {ys : List Int} (h : Kp D w x bv N G M ys) (k : Nat) (z : Int) : Kp D (w.setCell ⟨G, k, none⟩ (.int .i64 z)) x bv N G M (ys.set k z) :=
  ⟨h.lnd.setOther (p := ⟨G, k, none⟩) h.ne _, h.blk.set k z, by rw [List.length_set]; exact h.len, h.ne⟩
theorem Kp.cells {D : Value × Value} {w : World} {x : Nat} {bv : Value} {N : Int} {G M : Nat} {ys : List Int} (h : Kp D w x bv N G M ys) : w.cell? ⟨x, 0, none⟩ = some D.1 ∧ w.cell? ⟨x, 1, none⟩ = some D.2 ∧ w.cell? ⟨x, 4, none⟩ = some (.slice (some ⟨G, 0, none⟩) M M) := h.lnd.dsk
theorem Kp.below {D : Value × Value} {w w' : World} {x : Nat} {bv : Value} {N : Int} {G M : Nat} {ys : List Int} (h : Kp D w x bv N G M ys) (hb : Below w.heap.size w w') : Kp D w' x bv N G M ys :=
  ⟨h.lnd.of_block (hb.block _ h.lnd.lt), h.blk.of_block (hb.block _ h.blk.lt), h.len, h.ne⟩

theorem Kp.but {D : Value × Value} {w w' : World} {x : Nat} {bv : Value} {N : Int} {G M : Nat} {ys : List Int} (h : Kp D w x bv N G M ys) (hb : But (fun _ => False) w w') : Kp D w' x bv N G M ys :=
  ⟨h.lnd.but hb (fun h => h), h.blk.but hb (fun h => h), h.len, h.ne⟩
/-- the tags behind a crash -/
def crK (κ : Nat → Nat) (t S G y : Nat) : Nat := if y < S then κ y else if y = G then t + 4 else 0
/-- what a Crash hands out -/
def crZ (img : List Int) (puts : List (Nat × List Int)) (ks : List Int) : List Int := if placesC puts.length ks = 0 then crashZ img puts ks else []
theorem placesC_two (n : Nat) (ks : List Int) : placesC n ks = 0 ∨ placesC n ks = 26 := by unfold placesC; split <;> simp
theorem Crash_uni {X : Nat → Prop} {w : World} {p : Nat} {img : List Int} {puts : List (Nat × List Int)} {fu : Int} {off : Bool} {nb : Nat} (h : Dk X w p img puts fu off nb) (hl : puts.length ≤ 1073741824) (a : Option Addr) (m cap : Nat) (ks : List Int) (hm : m ≤ 1073741824) (hR : RdI w.heap.size w a m ks) :
    Calls Try.prog 51 #[.pointer (some ⟨p, 0, none⟩), .slice a m cap] w fun e w' => ∃ al c, e = .returned (.tuple #[.slice al (crZ img puts ks).length c, .int .i64 (placesC puts.length ks)]) ∧ ((al = none ∧ c = 0 ∧ crZ img puts ks = []) ∨ ∃ g, al = some ⟨g, 0, none⟩ ∧ w.heap.size ≤ g ∧ Own w' g (crZ img puts ks).length c (crZ img puts ks) ∧ Pl.isB (crZ img puts ks) ∧ (crZ img puts ks).length ≤ 268435456) ∧ Below w.heap.size w w' := by
  refine (Crash_any h hl a m cap ks hm hR).mono ?_
  rintro e w' ⟨hb, ⟨h1, rfl⟩ | ⟨h1, g, c, rfl, hg, hO, hz⟩⟩
  · have h2 := (placesC_two puts.length ks).resolve_left h1
    have h3 : crZ img puts ks = [] := if_neg h1
    rw [h3, h2]
    exact ⟨none, 0, rfl, .inl ⟨rfl, rfl, rfl⟩, hb⟩
  · have h3 : crZ img puts ks = crashZ img puts ks := if_pos h1
    have hln := hO.len
    rw [h3, h1, hln]
    exact ⟨some ⟨g, 0, none⟩, c, rfl, .inr ⟨g, rfl, hg, hO, hz, by have := h.facts; omega⟩, hb⟩
theorem refCrash_uni {X : Nat → Prop} {w : World} {r : Nat} {img : List Int} {puts : List (Nat × List Int)} {fu : Int} {off : Bool} {nb : Nat} (h : Rk X w r img puts fu off nb) (hl : puts.length ≤ 1073741824) (hib : Pl.isB img) (hpb : ∀ q ∈ puts, Pl.isB q.2) (a : Option Addr) (m c : Nat) (ks : List Int) (hm : m ≤ 1073741824) (hR : RdI w.heap.size w a m ks) :
    Calls Try.prog 68 #[.pointer (some ⟨r, 0, none⟩), .slice a m c] w fun e w' => ∃ a2 L2 c2, e = .returned (.tuple #[.slice a2 L2 c2, .int .i64 (placesC puts.length ks)]) ∧ Rd w'.heap.size w' a2 L2 (crZ img puts ks) ∧ Below w.heap.size w w' := by
  refine (refCrash_any h hl hib hpb a m c ks hm hR).mono ?_
  rintro e w' ⟨hb, ⟨h1, rfl⟩ | ⟨h1, a2, c2, rfl, hr⟩⟩
  · have h2 := (placesC_two puts.length ks).resolve_left h1
    have h3 : crZ img puts ks = [] := if_neg h1
    rw [h3, h2]
    exact ⟨none, 0, 0, rfl, ⟨rfl, Pl.isB_nil, .inl rfl⟩, hb⟩
  · have h3 : crZ img puts ks = crashZ img puts ks := if_pos h1
    rw [h3, h1]
    exact ⟨a2, _, c2, rfl, hr, hb⟩

theorem crash_end {t : Nat} {κ : Nat → Nat} {w w' : World} {x p r : Nat} {bv kv : Value} {img : List Int} {puts : List (Nat × List Int)} {fu : Int} {off : Bool} {nb m : Nat}
    (h1 : LS (.pointer (some ⟨p, 0, none⟩), .pointer (some ⟨r, 0, none⟩), kv) w x bv) (h2 : ∀ y, XL x bv y → κ y = t + 1)
    (hD : Dk (fun y => κ y = t + 2) w p img puts fu off nb) (hK : Rk (fun y => κ y = t + 3) w r img puts fu off nb) (hm : puts.length ≤ m)
    {N : Int} {G M : Nat} {ys : List Int} (hKp : Kp (.pointer (some ⟨p, 0, none⟩), .pointer (some ⟨r, 0, none⟩)) w' x bv N G M ys) (hM : M ≤ 67109376) (hb : But (fun y => y = x ∨ y = G) w w') (hG : G < w.heap.size → κ G = t + 4) :
    Dsk t (crK κ t w.heap.size G) w' x m ∧ (∀ y, y < w.heap.size → crK κ t w.heap.size G y = κ y) ∧ But (fun y => tg t (κ y)) w w' := by
  have lo : ∀ y, y < w.heap.size → crK κ t w.heap.size G y = κ y := fun y hy => if_pos hy
  have hx1 := h2 x (.inl rfl)
  have hax : ∀ y, y < w.heap.size → (y = x ∨ y = G) → κ y = t + 1 ∨ κ y = t + 4 := fun y hy h => by
    rcases h with h | h
    · subst h; exact .inl hx1
    · subst h; exact .inr (hG hy)
  refine ⟨⟨bv, .slice (some ⟨G, 0, none⟩) M M, _, _, ⟨⟨N, hKp.lnd⟩, ?_⟩, fun y hy => by rw [lo y (h1.there hy)]; exact h2 y hy, .inr ⟨G, M, ys, rfl, hKp.blk, hKp.len, hM⟩, fun g e => ?_, .inr ⟨p, r, img, puts, fu, off, nb, rfl, rfl, (hD.cut.but hb (fun y hy h => by have := hax y hy.2 h; omega)).mono (fun y hy => by rw [lo y hy.2]; exact hy.1), (hK.cut.but hb (fun y hy h => by have := hax y hy.2 h; omega)).mono (fun y hy => by rw [lo y hy.2]; exact hy.1), hm⟩⟩, lo, hb.mono (fun y hy h => by have := hax y hy h; unfold tg; omega)⟩
  · rcases h1.2 with h | ⟨G', M', ys', rfl, k1, k2, k3, k4⟩
    · exact .inl h
    · have hk := h2 G' (.inr rfl)
      exact .inr ⟨G', M', ys', rfl, k1, k2.but hb (fun h => by rcases h with h | h; · exact k1 h.symm
                                                               · have := hG (h ▸ k2.lt); subst h; omega), k3, k4⟩
  · cases e
    unfold crK
    split
    · rename_i h; exact hG h
    · simp

set_option maxRecDepth 100000 in
set_option maxHeartbeats 4000000 in
theorem dcrash_any {t : Nat} {κ : Nat → Nat} {w : World} {x p r : Nat} {bv kv : Value} {img : List Int} {puts : List (Nat × List Int)} {fu : Int} {off : Bool} {nb m : Nat}
    (h1 : LS (.pointer (some ⟨p, 0, none⟩), .pointer (some ⟨r, 0, none⟩), kv) w x bv) (h2 : ∀ y, XL x bv y → κ y = t + 1) (h3 : KS w kv) (h4 : ∀ g, kv.ownBlock = some g → κ g = t + 4)
    (hD : Dk (fun y => κ y = t + 2) w p img puts fu off nb) (hK : Rk (fun y => κ y = t + 3) w r img puts fu off nb) (hm : puts.length ≤ m) (hm2 : m ≤ 1073741823)
    (a : Option Addr) (n c : Nat) (ks : List Int) (hn : n ≤ 16777216) (hR : RiN (fun y => tg t (κ y)) w a n ks) :
    Calls Try.prog 42 #[.pointer (some ⟨x, 0, none⟩), .slice a n c] w fun e w' => ∃ lv κ', e = .returned (.tuple #[.bool true, lv]) ∧ Hands κ' w.heap.size w' lv ∧ Dsk t κ' w' x m ∧ (∀ y, y < w.heap.size → κ' y = κ y) ∧ But (fun y => tg t (κ y)) w w' := by
  have hxl := h1.lt
  obtain ⟨N, hN⟩ := h1.1
  have hx1 := h2 x (.inl rfl)
  have hmk := make_i64 (4 * n + 200) (by omega)
  have hcast : (((4 * n + 200 : Nat) : Nat) : Int) = 4 * (n : Int) + 200 := by omega
  rw [hcast] at hmk
  -- the places: as they are, or new ones
  have hcase : (∃ G M ys, kv = .slice (some ⟨G, 0, none⟩) M M ∧ Kp (.pointer (some ⟨p, 0, none⟩), .pointer (some ⟨r, 0, none⟩)) w x bv N G M ys ∧ κ G = t + 4 ∧ 2 * n + 70 ≤ M ∧ M ≤ 67109376) ∨
      (∃ a0 m0, kv = .slice a0 m0 m0 ∧ m0 < 2 * n + 70) := by
    rcases h3 with h3 | ⟨g, M, ys, e, hB, hl, hM⟩
    · exact .inr ⟨none, 0, h3, by omega⟩
    · by_cases hM2 : M < 2 * n + 70
      · exact .inr ⟨_, M, e, hM2⟩
      · have hk := h4 g (by rw [e]; rfl)
        subst e
        exact .inl ⟨g, M, ys, rfl, ⟨hN, hB, hl, fun q => by subst q; omega⟩, hk, by omega, hM⟩
  have q4 := hN.dsk.2.2
  have f4 := hN.frozen 4
  have Hh := hid (And.intro h1 (And.intro h2 (And.intro h3 h4)))
  have HD := hid hD
  have HK := hid hK
  have HR := hid hR
  have HN := hid hN
  clear h1 h2 h3 h4 hD hK hR hN
  go_enter Try.func42, Try.ntmps42
  rcases hcase with ⟨G, M, ys0, rfl, hKp, hG, hM, hM2⟩ | ⟨a0, m0, rfl, hm0⟩
  case' inl =>
    have hlt : ¬ ((M : Int) < 2 * (n : Int) + 70) := by omega
    go_wp2_with fail
    obtain ⟨W, hW⟩ : ∃ W, W = w := ⟨_, rfl⟩
    rw [← hW]
    have hbW : But (fun y => y = x) w W := by rw [hW]; exact But.refl _ _
    have hKW : Kp (.pointer (some ⟨p, 0, none⟩), .pointer (some ⟨r, 0, none⟩)) W x bv N G M ys0 := by rw [hW]; exact hKp
    have hGk : G < w.heap.size → κ G = t + 4 := fun _ => hG
    clear hlt hKp hW hG q4 f4 hmk hcast HN
  case' inr =>
    have hlt : ((m0 : Int) < 2 * (n : Int) + 70) := by omega
    go_wp2_with fail
    obtain ⟨W, hW⟩ : ∃ W, W = (w.setCell ⟨x, 4, none⟩ (.slice (some ⟨w.heap.size, 0, none⟩) (4 * n + 200) (4 * n + 200))).alloc (.cells ((zeros (4 * n + 200)).map (Value.int .i64)).toArray 3) := ⟨_, rfl⟩
    rw [← hW]
    have hbW : But (fun y => y = x) w W := by rw [hW]; exact ((But.refl (fun y => y = x) w).setCell (p := ⟨x, 4, none⟩) rfl _).alloc _
    obtain ⟨G, hGw⟩ : ∃ G, G = w.heap.size := ⟨_, rfl⟩
    obtain ⟨M, hMn⟩ : ∃ M, M = 4 * n + 200 := ⟨_, rfl⟩
    have hKW : Kp (.pointer (some ⟨p, 0, none⟩), .pointer (some ⟨r, 0, none⟩)) W x bv N w.heap.size (4 * n + 200) (zeros (4 * n + 200)) := by
      rw [hW]
      refine ⟨(HN.out.setK _).alloc _, ?_, length_zeros _, by omega⟩
      have h := Blk.new (k := .i64) (e := 3) (w.setCell ⟨x, 4, none⟩ (.slice (some ⟨w.heap.size, 0, none⟩) (4 * n + 200) (4 * n + 200))) (zeros (4 * n + 200))
      rw [show (w.setCell ⟨x, 4, none⟩ (.slice (some ⟨w.heap.size, 0, none⟩) (4 * n + 200) (4 * n + 200))).heap.size = w.heap.size from by simp [World.setCell]] at h
      exact h
    have hGk : G < w.heap.size → κ G = t + 4 := fun h => by omega
    generalize zeros (4 * n + 200) = ys0 at hKW
    rw [← hGw, ← hMn] at hKW
    have hM : 2 * n + 70 ≤ M := by omega
    have hM2 : M ≤ 67109376 := by omega
    clear hlt hW hGw hMn q4 f4 hmk hcast HN hm0
  all_goals
    have HbW := hid hbW
    clear hbW
    go_loopw [6] (fun i wt => ∃ (k : Nat) (ys : List Int), k ≤ M ∧ i = .int .i64 (k : Int) ∧ Kp (.pointer (some ⟨p, 0, none⟩), .pointer (some ⟨r, 0, none⟩)) wt x bv N G M ys ∧ ys.take k = (mkI M).take k ∧ But (fun y => y = G) W wt) (fun i _ => M - (intOf i).toNat)
    case atStart => exact ⟨0, ys0, Nat.zero_le _, rfl, hKW, rfl, But.refl _ _⟩
    case round =>
      obtain ⟨k, ys, hk, rfl, hKp, htk, hbt⟩ := hrel
      have hbuf : wr.cell? ⟨x, 4, none⟩ = some (.slice (some ⟨G, 0, none⟩) M M) := hKp.cells.2.2
      have hyl := hKp.len
      by_cases hkn : k < M
      · have hcell := hKp.blk.cell k (by omega)
        have hfr := hKp.blk.frozen k
        have hk2 : (k : Int) < (M : Int) := by omega
        have HKp := hid (hKp.set k (-201 - (k : Int)))
        have HT := hid (take_set (ys := ys) (k := k) (z := -201 - (k : Int)) (l := mkI M) (by omega) (by rw [length_mkI]; omega) htk (mkI_get hkn).symm)
        have Hb := hid (hbt.setCell (p := ⟨G, k, none⟩) rfl (.int .i64 (-201 - (k : Int))))
        generalize ys.getD k 0 = old at *
        clear hKp htk hbt hyl hKW
        go_wp2
        go_roundw
        case rel => exact ⟨k + 1, _, by omega, by go_num, HKp.out, HT.out, Hb.out⟩
        case measure => simp [intOf]; omega
      · obtain rfl : k = M := by omega
        have hys : ys = mkI k := by rw [List.take_of_length_le (by omega), List.take_of_length_le (by rw [length_mkI]; omega)] at htk; exact htk
        subst hys
        have u1 : But (fun y => y = x ∨ y = G) w wr := (HbW.out.mono (fun _ _ h => .inl h)).comp hbt (fun _ _ h => .inr h)
        have hRk : RdI wr.heap.size wr a n ks := ((HR.out.mono (Y := fun y => y = x ∨ y = G) (fun y hy h => by
          rcases h with h | h
          · subst h; unfold tg; omega
          · subst h; have := hGk hy; unfold tg; omega)).but u1).rdi
        obtain ⟨w3, hcp, hB3, hs3, hg3⟩ := copy_i64 G 0 k k a n c (mkI k) ks wr wr.heap.size hKp.blk hRk (by omega) (by rw [length_mkI]; omega)
        have hx3 : ¬ x = G := hKp.ne
        have b3 : But (fun y => y = G) wr w3 := (But.refl _ _).of_grown hg3 (fun y e _ => by cases e; rfl)
        have u3 : But (fun y => y = x ∨ y = G) w w3 := u1.comp b3 (fun _ _ h => .inr h)
        have hK3 : Kp (.pointer (some ⟨p, 0, none⟩), .pointer (some ⟨r, 0, none⟩)) w3 x bv N G k (splice (mkI k) 0 ks) := ⟨hKp.lnd.but b3 hx3, hB3, by simp [splice, length_mkI]; have := hRk.1; omega, hx3⟩
        have hax : ∀ y, y < w.heap.size → (y = x ∨ y = G) → κ y = t + 1 ∨ κ y = t + 4 := fun y hy h => by
          rcases h with h | h
          · subst h; exact .inl hx1
          · subst h; exact .inr (hGk hy)
        have hD3 := HD.out.cut.but u3 (fun y hy h => by have := hax y hy.2 h; omega)
        have hQ3 := HK.out.cut.but u3 (fun y hy h => by have := hax y hy.2 h; omega)
        have hRG : RdI w3.heap.size w3 (some ⟨G, 0, none⟩) n ks := ⟨hRk.1, .inr ⟨G, 0, rfl, hB3.lt, fun q hq => by
          have hh := hB3.cell q (by simp [splice, length_mkI]; omega)
          rw [splice_lo (by have := hRk.1; omega)] at hh
          rw [Nat.zero_add]; exact hh⟩⟩
        have HC3 := hid (Crash_uni (w := w3.drew) (hD3.keep (w' := w3.drew) (fun _ _ _ => rfl)) (by omega) (some ⟨G, 0, none⟩) n k ks (by omega) hRG)
        have hx3l : x < w3.heap.size := Nat.lt_of_lt_of_le hxl u3.size
        generalize hpc : placesC puts.length ks = C at HC3
        generalize hcz : crZ img puts ks = Z at HC3
        have Hpz := hid (And.intro hpc hcz)
        clear hpc hcz
        obtain ⟨i1, _, i3, _⟩ := HD.out.facts
        have H3 := hid (And.intro hK3 (And.intro hD3 (And.intro hQ3 (And.intro i1 (And.intro i3 (And.intro u3 hRG))))))
        have c0 : w3.cell? ⟨x, 0, none⟩ = some (.pointer (some ⟨p, 0, none⟩)) := hK3.cells.1
        have c4 : w3.cell? ⟨x, 4, none⟩ = some (.slice (some ⟨G, 0, none⟩) k k) := hK3.cells.2.2
        have hnk : (n : Int) ≤ (k : Int) := by omega
        clear hK3 hD3 hQ3 hRG u3 b3 hB3 hs3 hg3 u1 hbt hKp htk hyl hkn hKW i1 i3 hk
        go_wp2_with fail
        go_region_held3 (fun w' => w'.cell? ⟨x, 0, none⟩ = some (.pointer (some ⟨p, 0, none⟩)) ∧ w'.cell? ⟨x, 4, none⟩ = some (.slice (some ⟨G, 0, none⟩) k k)) (first | exact ⟨by assumption, by assumption⟩ | go_keep)
          ((go_at_call 51; refine Calls.mono HC3.out ?_; rintro e w4 ⟨al, cc, rfl, hal, hb4⟩
            have Hb4 := hid (undrew hb4)
            have Hal := hid hal
            have j0 := (Hb4.out.cell (p := ⟨x, 0, none⟩) hx3l).trans c0
            have j4 := (Hb4.out.cell (p := ⟨x, 4, none⟩) hx3l).trans c4
            clear hal hb4))
        obtain ⟨hK3, hD3, hQ3, i1, i3, u3, hRG⟩ := H3.out
        have hb4 := Hb4.out
        have u4 : But (fun y => y = x ∨ y = G) w w4 := u3.comp (But.of_below (X := fun _ => False) hb4) (fun _ _ h => h.elim)
        have hK4 := hK3.below hb4
        have hQ4 := hQ3.below hb4
        have hR4 : RdI w4.heap.size w4 a n ks := ((HR.out.mono (Y := fun y => y = x ∨ y = G) (fun y hy h => by have := hax y hy h; unfold tg; omega)).but u4).rdi
        have HC4 := hid (refCrash_uni hQ4 (by omega) i1 i3 a n c ks (by omega) hR4)
        rw [Hpz.out.1, Hpz.out.2] at HC4
        have c1 : w4.cell? ⟨x, 1, none⟩ = some (.pointer (some ⟨r, 0, none⟩)) := hK4.cells.2.1
        have H4 := hid (And.intro hK4 (And.intro hQ4 (And.intro u4 (And.intro hR4 ((hRG.below hb4).mono hb4.size)))))
        clear hK3 hD3 hQ3 i1 i3 u3 hRG hb4 u4 hK4 hQ4 hR4 c0 c4 j0 j4 HC3
        go_wp2_with fail
        refine Calls.mono HC4.out ?_
        rintro e w5 ⟨a2, L2, c2, rfl, hr5, hb5⟩
        obtain ⟨hK4, hQ4, u4, hR4, hG4⟩ := H4.out
        have HS5 := hid (SameInts_eq w5.heap.size (some ⟨G, 0, none⟩) a n k c ks w5 (Nat.le_refl _) (by omega) ((hG4.below hb5).mono hb5.size) ((hR4.below hb5).mono hb5.size))
        have hK5 := hK4.below hb5
        have c4 : w5.cell? ⟨x, 4, none⟩ = some (.slice (some ⟨G, 0, none⟩) k k) := hK5.cells.2.2
        have Hr5 := hid hr5
        have Hb5 := hid hb5
        have HK5 := hid hK5
        clear hK4 hQ4 u4 hR4 hG4 hK5 hr5 hb5 HC4 c1
        go_wp2_with fail
        refine Calls.mono HS5.out ?_
        rintro e w6 ⟨rfl, hb6⟩
        have HK6 := hid (HK5.out.below hb6)
        have Hb6 := hid hb6
        clear hb6 HS5 c4
        go_wp2_with fail
        go_loopw [11, 12] (fun ok i wt => ∃ j : Nat, n ≤ j ∧ j ≤ k ∧ i = .int .i64 (j : Int) ∧ ok = .bool true ∧ But (fun _ => False) w6 wt) (fun _ i _ => k - (intOf i).toNat)
        case atStart => exact ⟨n, Nat.le_refl _, by omega, rfl, rfl, But.refl _ _⟩
        case round =>
          obtain ⟨j, hj1, hj2, rfl, rfl, hbt⟩ := hrel
          have hKt := HK6.out.but hbt
          have c4 := hKt.cells.2.2
          have hlt := hKt.len
          by_cases hjn : j < k
          · have hcell := hKt.blk.cell j (by omega)
            rw [splice_hi (by have := HR.out.1; omega), mkI_get hjn] at hcell
            have hk2 : (j : Int) < (k : Int) := by omega
            have Hbt := hid hbt
            clear hKt hbt hlt
            go_wp2_with fail
            go_roundw
            case rel => exact ⟨j + 1, by omega, by omega, by go_num, by first | rfl | simp, Hbt.out⟩
            case measure => simp [intOf]; omega
          · obtain rfl : j = k := by omega
            obtain ⟨hK4, hQ4, u4, hR4, hG4⟩ := H4.out
            have u6 : But (fun y => y = x ∨ y = G) w wr := ((u4.comp (But.of_below (X := fun _ => False) Hb5.out) (fun _ _ h => h.elim)).comp (But.of_below (X := fun _ => False) Hb6.out) (fun _ _ h => h.elim)).comp hbt (fun _ _ h => h.elim)
            have b46 : Below w4.heap.size w4 wr := (Hb5.out.trans (Hb6.out.mono Hb5.out.size)).trans ((hbt.below (Nat.le_refl _) (fun _ _ h => h)).mono (Nat.le_trans Hb5.out.size Hb6.out.size))
            have hZ2 : Rd w5.heap.size wr a2 L2 Z := Hr5.out.below (Hb6.out.trans ((hbt.below (Nat.le_refl _) (fun _ _ h => h)).mono Hb6.out.size))
            have hZ1 : Rd wr.heap.size wr al Z.length Z := by
              rcases Hal.out with ⟨rfl, rfl, rfl⟩ | ⟨g, rfl, _, hO, hz⟩
              · exact ⟨rfl, Pl.isB_nil, .inl rfl⟩
              · exact (hO.below b46).rd hz.1
            have H6 := hid (And.intro hKt (And.intro u6 b46))
            have Z1 : ∀ q, Rd wr.heap.size (wr.drewN q) al Z.length Z := fun q => hZ1
            have Z2 : ∀ q, Rd wr.heap.size (wr.drewN q) a2 L2 Z := fun q => hZ2.mono (Nat.le_trans Hb6.out.size hbt.size)
            have HZ := hid (And.intro Z1 Z2)
            clear hK4 hQ4 u4 hR4 hG4 u6 b46 hZ1 hZ2 hKt Z1 Z2 hlt hbt
            go_wp2_with fail
            refine (SameBytes_eq wr.heap.size al a2 Z.length cc L2 c2 Z wr (HZ.out.1 0) (HZ.out.2 0)).mono ?_
            rintro e w7 ⟨rfl, e7⟩
            have e8 := e7.symm
            subst e8
            clear e7
            go_wp2_with fail
            refine (num_any C wr).mono ?_
            rintro e w7 ⟨rfl, e7⟩
            have e8 := e7.symm
            subst e8
            clear e7
            go_wp2
            go_ret2
            obtain ⟨hKt, u6, b46⟩ := H6.out
            have hGl : G < w3.heap.size := H3.out.1.blk.lt
            have hs3 : w.heap.size ≤ w3.heap.size := H3.out.2.2.2.2.2.1.size
            obtain ⟨e1, e2, e3⟩ := crash_end Hh.out.1 Hh.out.2.1 HD.out HK.out hm hKt hM2 u6 hGk
            refine ⟨.slice al Z.length cc, crK κ t w.heap.size G, rfl, ⟨al, Z, cc, rfl, ?_⟩, e1, e2, e3⟩
            rcases Hal.out with h | ⟨g, rfl, hg, hO, hz⟩
            · exact .inl h
            · have hg' : w3.heap.size ≤ g := hg
              refine .inr ⟨g, rfl, by omega, ?_, hO.below b46, hz⟩
              unfold crK
              rw [if_neg (by omega), if_neg (by omega)]

end Go.Proofs.Yteokekllbpkemaa
