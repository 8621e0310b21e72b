/-
  Desks beside one another; a script.
-/
import Derived.Test.YteokekllbpkemaaOpa
namespace Go.Proofs.Yteokekllbpkemaa
open Go.RowKit

/-- an act -/
structure ActD where
  wh : Int
  kd : Int
  at_ : Int
  fi : Int
  aR : Option Addr
  nR : Nat
  cR : Nat
  aK : Option Addr
  nK : Nat
  cK : Nat
  zs : List Int
  ks : List Int
def ActD.val (d : ActD) : Value := actV d.wh d.kd d.at_ d.fi (.slice d.aR d.nR d.cR) (.slice d.aK d.nK d.cK)
def ActD.ok (B : Nat) (w : World) (d : ActD) : Prop := d.at_ ≤ 9223372036854775807 ∧ ActIn (fun y => B ≤ y) w d.aR d.aK d.nR d.cR d.nK d.cK d.zs d.ks
theorem but_of_below {B : Nat} {w w' : World} (h : Below B w w') : But (fun y => B ≤ y) w w' := ⟨h.os, h.tape, h.output, h.size, fun k _ hk => h.block k (by omega)⟩
theorem ActD.ok.below {B : Nat} {w w' : World} {d : ActD} (h : d.ok B w) (hb : Below B w w') : d.ok B w' := ⟨h.1, h.2.below (but_of_below hb)⟩
theorem ActIn.mono {X Y : Nat → Prop} {w : World} {aR aK : Option Addr} {nR cR nK cK : Nat} {zs ks : List Int} (h : ActIn X w aR aK nR cR nK cK zs ks) (hx : ∀ y, Y y → X y) : ActIn Y w aR aK nR cR nK cK zs ks :=
  ⟨h.hR, h.hK, h.nilR, h.nilK, h.rd.mono (fun y _ q => hx y q), RiN.mono (X := X) h.ri (fun y _ q => hx y q)⟩
/-- a script -/
structure ScrIn (B : Nat) (w : World) (a : Option Addr) (n : Nat) (L : List ActD) : Prop where
  len : L.length = n
  ok : ∀ d ∈ L, d.ok B w
  cel : n = 0 ∨ ∃ b o, a = some ⟨b, o, none⟩ ∧ b < B ∧ ∀ i d, L[i]? = some d → w.cell? ⟨b, o + i * 6, none⟩ = some (.int .i64 d.wh) ∧ w.cell? ⟨b, o + i * 6 + 1, none⟩ = some (.int .i64 d.kd) ∧ w.cell? ⟨b, o + i * 6 + 2, none⟩ = some (.int .i64 d.at_) ∧ w.cell? ⟨b, o + i * 6 + 3, none⟩ = some (.int .i64 d.fi) ∧
    w.cell? ⟨b, o + i * 6 + 4, none⟩ = some (.slice d.aR d.nR d.cR) ∧ w.cell? ⟨b, o + i * 6 + 5, none⟩ = some (.slice d.aK d.nK d.cK)
theorem ScrIn.below {B : Nat} {w w' : World} {a : Option Addr} {n : Nat} {L : List ActD} (h : ScrIn B w a n L) (hb : Below B w w') : ScrIn B w' a n L := by
  refine ⟨h.len, fun d hd => (h.ok d hd).below hb, h.cel.imp id (fun ⟨b, o, e, l, q⟩ => ⟨b, o, e, l, fun i d hi => ?_⟩)⟩
  obtain ⟨q0, q1, q2, q3, q4, q5⟩ := q i d hi
  exact ⟨(hb.cell (p := ⟨b, _, none⟩) l).trans q0, (hb.cell (p := ⟨b, _, none⟩) l).trans q1, (hb.cell (p := ⟨b, _, none⟩) l).trans q2, (hb.cell (p := ⟨b, _, none⟩) l).trans q3, (hb.cell (p := ⟨b, _, none⟩) l).trans q4, (hb.cell (p := ⟨b, _, none⟩) l).trans q5⟩

/-- desks beside one another -/
def Desks (B : Nat) (w0 w : World) (l : List (Nat × Nat)) (m : Nat) : Prop := B ≤ w.heap.size ∧ Below B w0 w ∧ ∃ κ : Nat → Nat, (∀ y, y < B → κ y = 0) ∧ ∀ q ∈ l, Dsk q.1 κ w q.2 m
/-- their tags are apart -/
def Apart (l : List (Nat × Nat)) : Prop := ∀ q ∈ l, ∀ q' ∈ l, q = q' ∨ q.1 + 4 ≤ q'.1 ∨ q'.1 + 4 ≤ q.1
theorem Desks.more {B : Nat} {w0 w : World} {l : List (Nat × Nat)} {m m' : Nat} (h : Desks B w0 w l m) (hm : m ≤ m') : Desks B w0 w l m' := by
  obtain ⟨h1, h2, κ, h3, h4⟩ := h
  exact ⟨h1, h2, κ, h3, fun q hq => (h4 q hq).more hm⟩
theorem Desks.below {B : Nat} {w0 w w' : World} {l : List (Nat × Nat)} {m : Nat} (h : Desks B w0 w l m) (hb : Below w.heap.size w w') : Desks B w0 w' l m := by
  obtain ⟨h1, h2, κ, h3, h4⟩ := h
  exact ⟨Nat.le_trans h1 hb.size, h2.trans (hb.mono h1), κ, h3, fun q hq => (h4 q hq).keep (Nat.le_refl _) (fun y hy _ => hb.block y hy) (fun _ _ _ => rfl)⟩
theorem Desks.act {B : Nat} {w0 w : World} {l : List (Nat × Nat)} {m : Nat} (h : Desks B w0 w l m) (hl : Apart l) (hm : m ≤ 134217727) {q : Nat × Nat} (hq : q ∈ l) {d : ActD} (hd : d.ok B w) :
    Calls Try.prog 12 #[.pointer (some ⟨q.2, 0, none⟩), d.val] w fun e w' => (∃ lv, e = .returned (.tuple #[.bool true, lv])) ∧ Desks B w0 w' l (m + 1) := by
  obtain ⟨h1, h2, κ, h3, h4⟩ := h
  refine (act_any (h4 q hq) hm d.wh d.kd d.at_ d.fi hd.1 (hd.2.mono (fun y hy => ?_))).mono ?_
  · refine Classical.byContradiction (fun hc => ?_)
    have := h3 y (by omega)
    unfold tg at hy
    omega
  · rintro e w' ⟨lv, κ', rfl, _, hD, hk, hb⟩
    refine ⟨⟨lv, rfl⟩, Nat.le_trans h1 hb.size, h2.trans (hb.below h1 (fun k hk2 hk3 => by have := h3 k hk2; unfold tg at hk3; omega)), κ', fun y hy => (hk y (by omega)).trans (h3 y hy), fun q' hq' => ?_⟩
    rcases hl q hq q' hq' with e | e
    · subst e; exact hD
    · refine (h4 q' hq').keep (by omega) (fun y hy ht => hb.block y hy (fun ht2 => ?_)) (fun y hy _ => hk y hy)
      unfold tg at ht ht2
      omega
theorem Desks.opens {B : Nat} {w0 w : World} {l : List (Nat × Nat)} {m : Nat} (h : Desks B w0 w l m) (t : Nat) (nw : Bool) (bl : Int) {a : Option Addr} {n c : Nat} {zs : List Int} (hI : BegIn B w a n c zs) :
    Calls Try.prog 11 #[beginV nw bl (.slice a n c)] w fun e w' => ∃ x, e = .returned (.tuple #[.pointer (some ⟨x, 0, none⟩), .bool true]) ∧ Desks B w0 w' ((t, x) :: l) m := by
  obtain ⟨h1, h2, κ, h3, h4⟩ := h
  refine (open_any t κ w nw bl hI h1).mono ?_
  rintro e w' ⟨x, κ', rfl, hD, hk, hb⟩
  refine ⟨x, rfl, Nat.le_trans h1 hb.size, h2.trans (hb.mono h1), κ', fun y hy => (hk y (by omega)).trans (h3 y hy), fun q hq => ?_⟩
  rcases List.mem_cons.1 hq with rfl | hq
  · exact hD.more (by omega)
  · exact (h4 q hq).keep (Nat.le_refl _) (fun y hy _ => hb.block y hy) (fun y hy _ => hk y hy)

end Go.Proofs.Yteokekllbpkemaa

/-
  Desks beside a block that stays.
-/
namespace Go.Proofs.Yteokekllbpkemaa
open Go.RowKit

def lastL : List ActD := [⟨0, 1, 0, 0, none, 0, 0, none, 0, 0, [], []⟩, ⟨0, 6, 0, 0, none, 0, 0, none, 0, 0, [], []⟩, ⟨0, 8, 0, 0, none, 0, 0, none, 0, 0, [], []⟩, ⟨0, 9, 0, 0, none, 0, 0, none, 0, 0, [], []⟩]
def lastA : Array Value := #[.int .i64 0, .int .i64 1, .int .i64 0, .int .i64 0, .slice none 0 0, .slice none 0 0, .int .i64 0, .int .i64 6, .int .i64 0, .int .i64 0, .slice none 0 0, .slice none 0 0,
  .int .i64 0, .int .i64 8, .int .i64 0, .int .i64 0, .slice none 0 0, .slice none 0 0, .int .i64 0, .int .i64 9, .int .i64 0, .int .i64 0, .slice none 0 0, .slice none 0 0]
theorem last_ok (B : Nat) (w : World) : ∀ d ∈ lastL, d.ok B w := by
  intro d hd
  have h0 : ActIn (fun y => B ≤ y) w none none 0 0 0 0 [] [] := ⟨by omega, by omega, fun _ => rfl, fun _ => rfl, ⟨rfl, Pl.isB_nil, .inl rfl⟩, rfl, .inl rfl⟩
  simp only [lastL, List.mem_cons, List.not_mem_nil, or_false] at hd
  rcases hd with rfl | rfl | rfl | rfl <;> exact ⟨by decide, h0⟩
theorem last_cell {w : World} {g : Nat} (h : w.heap[g]? = some (.cells lastA 44 (0, 0))) {i : Nat} {d : ActD} (hi : lastL[i]? = some d) : w.cell? ⟨g, i * 6, none⟩ = some (.int .i64 d.wh) ∧ w.cell? ⟨g, i * 6 + 1, none⟩ = some (.int .i64 d.kd) ∧ w.cell? ⟨g, i * 6 + 2, none⟩ = some (.int .i64 d.at_) ∧ w.cell? ⟨g, i * 6 + 3, none⟩ = some (.int .i64 d.fi) ∧
    w.cell? ⟨g, i * 6 + 4, none⟩ = some (.slice d.aR d.nR d.cR) ∧ w.cell? ⟨g, i * 6 + 5, none⟩ = some (.slice d.aK d.nK d.cK) := by
  have hl : i < 4 := (List.getElem?_eq_some_iff.1 hi).1
  obtain rfl | rfl | rfl | rfl : i = 0 ∨ i = 1 ∨ i = 2 ∨ i = 3 := by omega
  all_goals
    simp only [lastL, List.getElem?_cons_zero, List.getElem?_cons_succ, Option.some.injEq] at hi
    subst hi
    simp [World.cell?, h, lastA]
/-- desks, and the block g of the last acts -/
def DesksG (B g : Nat) (w0 w : World) (l : List (Nat × Nat)) (m : Nat) : Prop := B ≤ w.heap.size ∧ Below B w0 w ∧ w.heap[g]? = some (.cells lastA 44 (0, 0)) ∧ ∃ κ : Nat → Nat, (∀ y, y < B → κ y = 0) ∧ κ g = 0 ∧ ∀ q ∈ l, Dsk q.1 κ w q.2 m
theorem Desks.last {B : Nat} {w0 w : World} {l : List (Nat × Nat)} {m : Nat} (h : Desks B w0 w l m) : DesksG B w.heap.size w0 (w.alloc (.cells lastA 44)) l m := by
  obtain ⟨h1, h2, κ, h3, h4⟩ := h
  have hb : Below w.heap.size w (w.alloc (.cells lastA 44)) := (Below.refl _ _).alloc (Nat.le_refl _) _
  refine ⟨Nat.le_trans h1 hb.size, h2.trans (hb.mono h1), ?_, cutK κ w.heap.size, fun y hy => (cutK_lo κ (by omega)).trans (h3 y hy), cutK_hi κ (Nat.le_refl _), fun q hq => (h4 q hq).keep (Nat.le_refl _) (fun y hy _ => hb.block y hy) (fun y hy _ => cutK_lo κ hy)⟩
  show (w.heap.push _)[w.heap.size]? = _
  simp
theorem DesksG.act {B g : Nat} {w0 w : World} {l : List (Nat × Nat)} {m : Nat} (h : DesksG B g w0 w l m) (hl : Apart l) (hm : m ≤ 134217727) {q : Nat × Nat} (hq : q ∈ l) {d : ActD} (hd : d.ok B w) :
    Calls Try.prog 12 #[.pointer (some ⟨q.2, 0, none⟩), d.val] w fun e w' => (∃ lv, e = .returned (.tuple #[.bool true, lv])) ∧ DesksG B g w0 w' l (m + 1) := by
  obtain ⟨h1, h2, hg, κ, h3, hg0, h4⟩ := h
  have hgl : g < w.heap.size := (Array.getElem?_eq_some_iff.1 hg).1
  refine (act_any (h4 q hq) hm d.wh d.kd d.at_ d.fi hd.1 (hd.2.mono (fun y hy => ?_))).mono ?_
  · refine Classical.byContradiction (fun hc => ?_)
    have := h3 y (by omega)
    unfold tg at hy
    omega
  · rintro e w' ⟨lv, κ', rfl, _, hD, hk, hb⟩
    refine ⟨⟨lv, rfl⟩, Nat.le_trans h1 hb.size, h2.trans (hb.below h1 (fun k hk2 hk3 => by have := h3 k hk2; unfold tg at hk3; omega)), (hb.block g hgl (by show ¬ tg _ _; unfold tg; omega)).trans hg, κ', fun y hy => (hk y (by omega)).trans (h3 y hy), (hk g hgl).trans hg0, fun q' hq' => ?_⟩
    rcases hl q hq q' hq' with e | e
    · subst e; exact hD
    · refine (h4 q' hq').keep (by omega) (fun y hy ht => hb.block y hy (fun ht2 => ?_)) (fun y hy _ => hk y hy)
      unfold tg at ht ht2
      omega

end Go.Proofs.Yteokekllbpkemaa

/-
  later (function 20).
-/
namespace Go.Proofs.Yteokekllbpkemaa
open Go.RowKit

theorem apart3 (x y z : Nat) : Apart [(8, z), (4, y), (0, x)] := by
  intro q hq q' hq'
  simp only [List.mem_cons, List.not_mem_nil, or_false] at hq hq'
  rcases hq with rfl | rfl | rfl <;> rcases hq' with rfl | rfl | rfl <;> simp

set_option maxRecDepth 100000 in
set_option maxHeartbeats 4000000 in
theorem later_any {B : Nat} {w0 w : World} {x y m : Nat} (h : Desks B w0 w [(4, y), (0, x)] m) (nw : Bool) (bl : Int) {a : Option Addr} {n c : Nat} {zs : List Int} (hI : BegIn B w0 a n c zs) {aS : Option Addr} {nS cS : Nat} {L : List ActD} (hS : ScrIn B w0 aS nS L) (hm : m + nS + 10 ≤ 134217727) (lo hi : Int) :
    Calls Try.prog 20 #[.pointer (some ⟨x, 0, none⟩), .pointer (some ⟨y, 0, none⟩), beginV nw bl (.slice a n c), .slice aS nS cS, .int .i64 lo, .int .i64 hi] w fun e w' => e = .returned (.bool true) ∧ Below B w0 w' := by
  obtain ⟨W, hW⟩ : ∃ W, W = w.alloc (.cells #[.bool nw, .int .i64 bl, .slice a n c] 24) := ⟨_, rfl⟩
  have bW : Below w.heap.size w W := by rw [hW]; exact (Below.refl _ _).alloc (Nat.le_refl _) _
  have h1 := h.below bW
  have hI1 := hI.below h1.2.1
  have HS := hid hS
  have HO := hid (h1.opens 8 nw bl hI1)
  unfold beginV at HO
  have HW := hid hW
  clear h h1 hI hI1 hS hW bW
  unfold beginV
  go_enter Try.func20, Try.ntmps20
  go_wp2_with fail
  rw [← HW.out]
  refine Calls.mono HO.out ?_
  rintro e w1 ⟨z, rfl, hD1⟩
  have HD1 := hid hD1
  clear hD1 HO
  go_wp2_with fail
  go_loopw [15] (fun i wt => ∃ k : Nat, k ≤ nS ∧ i = .int .i64 (k : Int) ∧ Desks B w0 wt [(8, z), (4, y), (0, x)] (m + k)) (fun i _ => nS - (intOf i).toNat)
  case atStart => exact ⟨0, Nat.zero_le _, rfl, HD1.out⟩
  case round =>
    clear HD1
    obtain ⟨k, hk, rfl, hD⟩ := hrel
    have hSt := HS.out.below hD.2.1
    have hlen := hSt.len
    by_cases hkn : k < nS
    · obtain ⟨b, o, rfl, hb, hc⟩ := hSt.cel.resolve_left (by omega)
      have hkL : k < L.length := by omega
      have hdk : L[k]? = some L[k] := List.getElem?_eq_getElem hkL
      obtain ⟨q0, q1, q2, q3, q4, q5⟩ := hc k _ hdk
      have HAc := hid (hD.act (apart3 x y z) (by omega) (q := (8, z)) (by simp) (d := L[k]) (hSt.ok L[k] (List.getElem_mem hkL)))
      have hkn' : (k : Int) < (nS : Int) := by omega
      have HD := hid hD
      clear hSt hD hc hdk hlen
      generalize L[k] = d at *
      clear hkL
      unfold ActD.val actV at HAc
      by_cases hwb : bits BinOp.and IntKind.i64 d.wh 1 = 1
      · go_wp2_with fail
        go_roundw
        case rel => exact ⟨k + 1, by omega, by go_num, HD.out.more (by omega)⟩
        case measure => simp [intOf]; omega
      · go_wp2_with fail
        refine Calls.mono HAc.out ?_
        rintro e w2 ⟨⟨lv, rfl⟩, hD2⟩
        have HD2 := hid hD2
        clear hD2 HAc
        go_wp2_with fail
        go_roundw
        case rel => exact ⟨k + 1, by omega, by go_num, by rw [← Nat.add_assoc]; exact HD2.out⟩
        case measure => simp [intOf]; omega
    · obtain rfl : k = nS := by omega
      have HG := hid hD.last
      clear hSt hD hlen hkn
      go_wp2_with fail
      unfold lastA at HG
      generalize hV : wr.alloc _ = V at *
      have HV := hid hV
      clear hV
      generalize hg : wr.heap.size = g at *
      clear hg
      go_loopw [19] (fun i wt => ∃ j : Nat, j ≤ 4 ∧ i = .int .i64 (j : Int) ∧ DesksG B g w0 wt [(8, z), (4, y), (0, x)] (m + k + 2 * j)) (fun i _ => 4 - (intOf i).toNat)
      case atStart => exact ⟨0, by omega, rfl, HG.out⟩
      case round =>
        clear HG HV
        obtain ⟨j, hj, rfl, hD⟩ := hrel
        by_cases hjn : j < 4
        · have hll : lastL.length = 4 := rfl
          have hdj : lastL[j]? = some lastL[j] := List.getElem?_eq_getElem (by omega)
          obtain ⟨q0, q1, q2, q3, q4, q5⟩ := last_cell hD.2.2.1 hdj
          have HA1 := hid (hD.act (apart3 x y z) (by omega) (q := (0, x)) (by simp) (d := lastL[j]) (last_ok B wr _ (List.getElem_mem _)))
          have HA2 : Hid (∀ w2, DesksG B g w0 w2 [(8, z), (4, y), (0, x)] (m + k + 2 * j + 1) → (w2.cell? ⟨g, j * 6, none⟩ = some (.int .i64 lastL[j].wh) ∧ w2.cell? ⟨g, j * 6 + 1, none⟩ = some (.int .i64 lastL[j].kd) ∧ w2.cell? ⟨g, j * 6 + 2, none⟩ = some (.int .i64 lastL[j].at_) ∧ w2.cell? ⟨g, j * 6 + 3, none⟩ = some (.int .i64 lastL[j].fi) ∧ w2.cell? ⟨g, j * 6 + 4, none⟩ = some (.slice lastL[j].aR lastL[j].nR lastL[j].cR) ∧ w2.cell? ⟨g, j * 6 + 5, none⟩ = some (.slice lastL[j].aK lastL[j].nK lastL[j].cK)) ∧
              Calls Try.prog 12 #[.pointer (some ⟨y, 0, none⟩), lastL[j].val] w2 fun e w' => (∃ lv, e = .returned (.tuple #[.bool true, lv])) ∧ DesksG B g w0 w' [(8, z), (4, y), (0, x)] (m + k + 2 * j + 1 + 1)) := fun w2 h2 => ⟨last_cell h2.2.2.1 hdj, h2.act (apart3 x y z) (by omega) (q := (4, y)) (by simp) (d := lastL[j]) (last_ok B w2 _ (List.getElem_mem _))⟩
          have hjn' : (j : Int) < 4 := by omega
          clear hdj hD
          generalize lastL[j] = d at *
          unfold ActD.val actV at HA1 HA2
          go_wp2_with fail
          refine Calls.mono HA1.out ?_
          rintro e w2 ⟨⟨lv, rfl⟩, hD2⟩
          obtain ⟨⟨r0, r1, r2, r3, r4, r5⟩, hA3⟩ := HA2.out w2 hD2
          have HA3 := hid hA3
          clear hD2 HA1 HA2 hA3 q0 q1 q2 q3 q4 q5
          go_wp2_with fail
          refine Calls.mono HA3.out ?_
          rintro e w3 ⟨⟨lv2, rfl⟩, hD3⟩
          have HD3 := hid hD3
          clear hD3 HA3
          go_wp2_with fail
          go_roundw
          case rel => exact ⟨j + 1, by omega, by go_num, by rw [show m + k + 2 * (j + 1) = m + k + 2 * j + 1 + 1 by omega]; exact HD3.out⟩
          case measure => simp [intOf]; omega
        · have HD := hid hD
          clear hD
          have hjn' : ¬ (j : Int) < 4 := by omega
          go_wp2
          go_ret
          exact ⟨rfl, HD.out.2.1⟩

end Go.Proofs.Yteokekllbpkemaa
