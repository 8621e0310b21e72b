import Derived.Test.YtldlejpacgphmaaGreatG19
import Derived.Lib.AppendZeros
namespace Go.Proofs.YtldlejpacgphmaaGreat
open Go.RowKit
/-- are these bytes a transaction of this journal? -/
def okFound (nb fr bl seq : Nat) (zs : List Int) : Bool := (decide (zs.length % 515 = 0) && decide ((seq : Int) < 1099511627776)) && (putsZ zs).all fun p => decide (homeC nb fr bl (p.1 : Int) = 0)
theorem okAll_eq {nb fr bl : Nat} {ps : List Pm} {ys : List (Nat × List Int)} (h : ps.map Pm.put = ys) (hp : ∀ p ∈ ps, 0 ≤ p.at_ ∧ p.data.length = 512) : (ps.all fun p => decide (putC nb fr bl p.at_ p.data.length = 0)) = ys.all fun p => decide (homeC nb fr bl (p.1 : Int) = 0) := by
  subst h
  induction ps with
  | nil => rfl
  | cons p ps ih =>
    obtain ⟨h0, h1⟩ := hp p (by simp)
    have e : decide (putC nb fr bl p.at_ p.data.length = 0) = decide (homeC nb fr bl ((p.at_.toNat : Nat) : Int) = 0) := by
      rw [Int.toNat_of_nonneg h0]
      unfold putC
      by_cases q : homeC nb fr bl p.at_ = 0
      · simp [q, h1]
      · simp [q]
    simp only [List.map_cons, List.all_cons]
    rw [ih (fun x hx => hp x (by simp [hx])), e]
    rfl
theorem rdp_of_owns {X : Nat → Prop} {w : World} {B : Nat} {pv : Option Addr} {N cq : Nat} {ps : List Pm} (hrow : w.ownsRow B 68 2 (.slice pv N cq) N (pmCells ps)) (hl : ps.length = N) (hX : ∀ k, B ≤ k → ¬ X k) (hd : ∀ p ∈ ps, RdN X w p.ad p.data.length p.data) : RdP X w pv ps := by
  refine ⟨hd, ?_⟩
  by_cases h0 : ps = []
  · exact .inl h0
  · refine .inr ?_
    rcases hrow.2 with ⟨e, q⟩ | ⟨g, cap, cur, e, hB, hh, _, _, _, hcur⟩
    · exact absurd (List.length_eq_zero_iff.1 (by omega)) h0
    · simp at e
      obtain ⟨rfl, rfl⟩ := e
      refine ⟨g, 0, rfl, (Array.getElem?_eq_some_iff.1 hh).1, hX g hB, fun t p hp => ?_⟩
      have ht : t < ps.length := (List.getElem?_eq_some_iff.1 hp).1
      have hcl : (pmCells ps)[t * 2]? = some (.int .i64 p.at_) ∧ (pmCells ps)[t * 2 + 1]? = some (.slice p.ad p.data.length p.cap) := by
        clear hrow hcur hl hd h0
        induction ps generalizing t with
        | nil => cases hp
        | cons x xs ih =>
          cases t with
          | zero =>
            simp at hp
            subst hp
            exact ⟨rfl, rfl⟩
          | succ t =>
            have := ih t (by simpa using hp) (by simpa using ht)
            have e1 : pmCells (x :: xs) = [.int .i64 x.at_, .slice x.ad x.data.length x.cap] ++ pmCells xs := rfl
            rw [e1, show (t + 1) * 2 = 2 + t * 2 by omega, List.getElem?_append_right (by simp), show 2 + t * 2 + 1 = 2 + (t * 2 + 1) by omega, List.getElem?_append_right (by simp)]
            simpa using this
      have hw := World.ownsRow.cellAt hrow
      have hlen : (pmCells ps).length = N * 2 := hrow.1
      have c1 := hw (t * 2) (by omega)
      have c2 := hw (t * 2 + 1) (by omega)
      rw [Nat.zero_add]
      exact ⟨c1.trans hcl.1, c2.trans hcl.2⟩
/-- the journal behind it -/
def foundS (s : Js) (zs : List Int) : Bool → Js
  | true => ⟨s.life, s.seq + 1, s.used, aheadP s.ah (putsZ zs)⟩
  | false => s
/-- is all well so far? -/
def okSo (nb fr bl : Nat) (b0 : Bool) (ps : List Pm) : Bool := b0 && ps.all fun p => decide (putC nb fr bl p.at_ p.data.length = 0)
theorem okSo_snoc (nb fr bl : Nat) (b0 : Bool) (ps : List Pm) (p : Pm) : okSo nb fr bl b0 (ps ++ [p]) = (okSo nb fr bl b0 ps && decide (putC nb fr bl p.at_ p.data.length = 0)) := by
  unfold okSo
  rw [List.all_append, ← Bool.and_assoc]
  simp
set_option maxRecDepth 100000 in
set_option maxHeartbeats 1000000 in
theorem takeFound_any {Z : Nat → Prop} {w : World} {j c p room nb K fr bl : Nat} {d : Pd} {s : Js} (h : Jq Z w j c p room nb K fr bl d s) (h1 : fr + bl ≤ nb) (a : Option Addr) (n cp : Nat) (zs : List Int) (hR : RdN Z w a n zs) (hcp : n ≤ cp) (hn : n ≤ 1073741823) :
    Calls Tryz.prog 96 #[.pointer (some ⟨j, 0, none⟩), .slice a n cp] w fun e w' => e = .returned (.bool (okFound nb fr bl s.seq zs)) ∧ (∃ Z', Jq Z' w' j c p room nb K fr bl d (foundS s zs (okFound nb fr bl s.seq zs)) ∧ Gr Z Z' w) ∧ But Z w w' := by
  have HP := hid (putsOf_any Z a n cp zs w hR hcp hn)
  have hln := hR.1
  have HJ := hid h
  clear h hR hcp
  go_enter Tryz.func96, Tryz.ntmps96
  go_wp2_with fail
  refine Calls.mono HP.out ?_
  rintro e w1 ⟨pv, ps, cq, rfl, hps, hpl, hpp, hrow, b1⟩
  have hJ1 := HJ.out.cut.below b1
  obtain ⟨mv, hJb, _⟩ := hJ1.cells
  have HT := hid (jtakesMore_any hJb)
  have hRP : RdP (fun k => Z k ∧ k < w.heap.size) w1 pv ps := rdp_of_owns hrow hpl (fun k hk q => by have := q.2; omega) (fun p hp => by
    obtain ⟨q0, q1, r1, r2, r3⟩ := hpp p hp
    rw [q1]
    refine ⟨r1, r2, ?_⟩
    rcases r3 with r3 | ⟨b, off, r4, r5, r6, r7⟩
    · exact .inl r3
    · exact .inr ⟨b, off, r4, by have := b1.size; omega, fun q => r6 q.1, fun t ht => (b1.cell (p := ⟨b, off + t, none⟩) r5).trans (r7 t ht)⟩)
  have HPS := hid (And.intro hps (And.intro hpp hln))
  have HJ1 := hid hJ1
  have HRP := hid hRP
  have HB1 := hid b1
  generalize hN : n / 515 = N at *
  have hN2 : N ≤ 1073741823 := by omega
  have hall := okAll_eq (nb := nb) (fr := fr) (bl := bl) HPS.out.1 (fun p hp => ⟨(HPS.out.2.1 p hp).1, (HPS.out.2.1 p hp).2.1⟩)
  clear hps hpp hrow b1 hJ1 hJb hRP HP HJ
  cases hd1 : decide (n % 515 = 0)
  · obtain ⟨b0, hb0⟩ : ∃ b0, b0 = false := ⟨_, rfl⟩
    have HE : Hid (okFound nb fr bl s.seq zs = okSo nb fr bl b0 ps) := by unfold okFound okSo; rw [hln, hd1, hb0, hall]; rfl
    have HSQ : Hid (b0 = true → s.seq < 1099511627776) := fun q => by rw [hb0] at q; cases q
    clear hall hd1 HT
    go_wp2_with fail
    go_loopw [6, 21] (fun okv iv wr => ∃ q : Nat, q ≤ N ∧ iv = .int .i64 (q : Int) ∧ okv = .bool (okSo nb fr bl b0 (ps.take q)) ∧ Below w1.heap.size w1 wr) (fun _ iv _ => N - (intOf iv).toNat)
    case atStart => exact ⟨0, Nat.zero_le _, rfl, (by simp [okSo, hb0]), Below.refl _ _⟩
    case round =>
      clear hb0
      obtain ⟨q, hq, rfl, rfl, hbt⟩ := hrel
      have hsw := hbt.size
      by_cases hqn : q < N
      · have hqn' : (q : Int) < (N : Int) := by omega
        obtain ⟨pp, hpq⟩ : ∃ pp, ps[q]? = some pp := ⟨_, List.getElem?_eq_getElem (by omega)⟩
        obtain ⟨bk, off, rfl, hbk, hbZ, hcell⟩ : ∃ b off, pv = some ⟨b, off, none⟩ ∧ b < w1.heap.size ∧ ¬ (Z b ∧ b < w.heap.size) ∧ ∀ (t : Nat) (p : Pm), ps[t]? = some p → w1.cell? ⟨b, off + t * 2, none⟩ = some (.int .i64 p.at_) ∧ w1.cell? ⟨b, off + t * 2 + 1, none⟩ = some (.slice p.ad p.data.length p.cap) := by
          rcases HRP.out.2 with e | e
          · rw [e] at hpq; cases hpq
          · exact e
        obtain ⟨c1, c2⟩ := hcell q pp hpq
        replace c1 := (hbt.cell (p := ⟨bk, off + q * 2, none⟩) hbk).trans c1
        replace c2 := (hbt.cell (p := ⟨bk, off + q * 2 + 1, none⟩) hbk).trans c2
        obtain ⟨w2, hw2⟩ : ∃ w2, w2 = wr.alloc (.cells #[.int .i64 pp.at_, .slice pp.ad pp.data.length pp.cap] 68) := ⟨_, rfl⟩
        have b2 : Below wr.heap.size wr w2 := by rw [hw2]; exact (Below.refl _ _).alloc (Nat.le_refl _) _
        have n0 : w2.cell? ⟨wr.heap.size, 0, none⟩ = some (.int .i64 pp.at_) := by rw [hw2]; exact cell_new rfl 0 _ rfl
        have n1 : w2.cell? ⟨wr.heap.size, 1, none⟩ = some (.slice pp.ad pp.data.length pp.cap) := by rw [hw2]; exact cell_new rfl 1 _ rfl
        have hok : okSo nb fr bl b0 (ps.take (q + 1)) = (okSo nb fr bl b0 (ps.take q) && decide (putC nb fr bl pp.at_ pp.data.length = 0)) := by
          rw [List.take_add_one, hpq]
          exact okSo_snoc nb fr bl b0 (ps.take q) pp
        have HC := hid (checkPut_any (HJ1.out.below (hbt.trans (b2.mono hsw))) h1 pp.at_ pp.ad pp.data.length pp.cap)
        have B2 := hid (hbt.trans (b2.mono hsw))
        have HOK := hid hok
        clear hcell hbt b2 hok hpq
        generalize hpl2 : pp.data.length = dl at *
        clear hpl2
        cases hok2 : okSo nb fr bl b0 (ps.take q)
        · go_wp2_with fail
          go_roundw
          case rel => exact ⟨q + 1, by omega, by go_num, by rw [HOK.out, hok2]; rfl, by rw [← hw2]; exact B2.out⟩
          case measure => simp [intOf]; omega
        · go_wp2_with fail
          rw [← hw2]
          refine Calls.mono HC.out ?_
          rintro e w3 ⟨rfl, b3⟩
          have B3 := hid (B2.out.trans (b3.mono B2.out.size))
          clear b3 HC
          by_cases hcz : putC nb fr bl pp.at_ dl = 0
          · have HZ := hid hcz
            rw [hcz]
            clear hcz hw2 n0 n1 c1 c2
            go_wp2_with fail
            go_roundw
            case rel => exact ⟨q + 1, by omega, by go_num, by rw [HOK.out, hok2, HZ.out]; rfl, B3.out⟩
            case measure => simp [intOf]; omega
          · have HZ := hid hcz
            generalize putC nb fr bl pp.at_ dl = cz at *
            clear hw2 n0 n1 c1 c2
            go_wp2_with fail
            go_roundw
            case rel => exact ⟨q + 1, by omega, by go_num, by rw [HOK.out, hok2, decide_eq_false HZ.out, show (cz == 0) = false by simpa using HZ.out]; rfl, B3.out⟩
            case measure => simp [intOf]; omega
      · have hqn' : ¬ (q : Int) < (N : Int) := by omega
        have hqe : ps.take q = ps := List.take_of_length_le (by omega)
        rw [hqe]
        have HJr := hid (HJ1.out.below hbt)
        have hbw : Below w.heap.size w wr := HB1.out.trans (hbt.mono HB1.out.size)
        cases hok2 : okSo nb fr bl b0 ps
        · have FIN : Hid (okFound nb fr bl s.seq zs = false ∧ (∃ Z', Jq Z' wr j c p room nb K fr bl d s ∧ Gr Z Z' w) ∧ But Z w wr) := ⟨by rw [HE.out, hok2], ⟨_, HJr.out, fun k _ r => r.1⟩, But.of_below hbw⟩
          clear hqe hok2 hbt hbw HJr
          go_wp2
          go_ret
          rw [FIN.out.1]
          exact ⟨rfl, FIN.out.2.1, FIN.out.2.2⟩
        · have hall : (b0 && ps.all fun p => decide (putC nb fr bl p.at_ p.data.length = 0)) = true := hok2
          rw [Bool.and_eq_true] at hall
          have hsq : s.seq < 1099511627776 := HSQ.out hall.1
          have hput : ∀ p ∈ ps, 0 ≤ p.at_ ∧ p.at_ < nb ∧ p.data.length = 512 := fun p hp => by
            have := List.all_eq_true.1 hall.2 p hp
            simp only [decide_eq_true_eq] at this
            have := putC_zero this
            exact ⟨this.2.1, this.2.2.1, this.1⟩
          have HTk := hid (take_any HJr.out hsq pv cq ps (HRP.out.but (But.of_below hbt (X := fun _ => False)) (fun k _ q => q.elim) _ (fun k _ q => q)) hput (by omega))
          rw [hpl] at HTk
          have FIN0 := hid (And.intro (show okFound nb fr bl s.seq zs = true by rw [HE.out, hok2]) hbw)
          clear hqe hok2 hbt hbw HJr hall hsq hput
          go_wp2_with fail
          refine Calls.mono HTk.out ?_
          rintro e w3 ⟨rfl, ⟨Z3, hJ3, hG3⟩, b3⟩
          have FIN : Hid ((∃ Z', Jq Z' w3 j c p room nb K fr bl d ⟨s.life, s.seq + 1, s.used, aheadP s.ah (putsZ zs)⟩ ∧ Gr Z Z' w) ∧ But Z w w3) := by
            have hs := FIN0.out.2.size
            rw [HPS.out.1] at hJ3
            exact ⟨⟨Z3, hJ3, fun k hk r => (hG3 k (by omega) r).1⟩, (But.of_below FIN0.out.2).comp b3 (fun k _ r => r.1)⟩
          clear hJ3 hG3 b3 HTk
          go_wp2
          go_ret
          rw [FIN0.out.1]
          exact ⟨rfl, FIN.out.1, FIN.out.2⟩
  · obtain ⟨b0, hb0⟩ : ∃ b0, b0 = decide ((s.seq : Int) < 1099511627776) := ⟨_, rfl⟩
    have HE : Hid (okFound nb fr bl s.seq zs = okSo nb fr bl b0 ps) := by unfold okFound okSo; rw [hln, hd1, hb0, hall, Bool.true_and]; exact hid rfl
    have HSQ : Hid (b0 = true → s.seq < 1099511627776) := fun q => by rw [hb0] at q; have := of_decide_eq_true q; omega
    rw [← hb0] at HT
    clear hall hd1
    go_wp2_with fail
    refine Calls.mono HT.out ?_
    rintro e w9 ⟨rfl, hw9⟩
    rw [hw9]
    clear HT hw9
    go_wp2_with fail
    go_loopw [6, 21] (fun okv iv wr => ∃ q : Nat, q ≤ N ∧ iv = .int .i64 (q : Int) ∧ okv = .bool (okSo nb fr bl b0 (ps.take q)) ∧ Below w1.heap.size w1 wr) (fun _ iv _ => N - (intOf iv).toNat)
    case atStart => exact ⟨0, Nat.zero_le _, rfl, (by simp [okSo, hb0]), Below.refl _ _⟩
    case round =>
      clear hb0
      obtain ⟨q, hq, rfl, rfl, hbt⟩ := hrel
      have hsw := hbt.size
      by_cases hqn : q < N
      · have hqn' : (q : Int) < (N : Int) := by omega
        obtain ⟨pp, hpq⟩ : ∃ pp, ps[q]? = some pp := ⟨_, List.getElem?_eq_getElem (by omega)⟩
        obtain ⟨bk, off, rfl, hbk, hbZ, hcell⟩ : ∃ b off, pv = some ⟨b, off, none⟩ ∧ b < w1.heap.size ∧ ¬ (Z b ∧ b < w.heap.size) ∧ ∀ (t : Nat) (p : Pm), ps[t]? = some p → w1.cell? ⟨b, off + t * 2, none⟩ = some (.int .i64 p.at_) ∧ w1.cell? ⟨b, off + t * 2 + 1, none⟩ = some (.slice p.ad p.data.length p.cap) := by
          rcases HRP.out.2 with e | e
          · rw [e] at hpq; cases hpq
          · exact e
        obtain ⟨c1, c2⟩ := hcell q pp hpq
        replace c1 := (hbt.cell (p := ⟨bk, off + q * 2, none⟩) hbk).trans c1
        replace c2 := (hbt.cell (p := ⟨bk, off + q * 2 + 1, none⟩) hbk).trans c2
        obtain ⟨w2, hw2⟩ : ∃ w2, w2 = wr.alloc (.cells #[.int .i64 pp.at_, .slice pp.ad pp.data.length pp.cap] 68) := ⟨_, rfl⟩
        have b2 : Below wr.heap.size wr w2 := by rw [hw2]; exact (Below.refl _ _).alloc (Nat.le_refl _) _
        have n0 : w2.cell? ⟨wr.heap.size, 0, none⟩ = some (.int .i64 pp.at_) := by rw [hw2]; exact cell_new rfl 0 _ rfl
        have n1 : w2.cell? ⟨wr.heap.size, 1, none⟩ = some (.slice pp.ad pp.data.length pp.cap) := by rw [hw2]; exact cell_new rfl 1 _ rfl
        have hok : okSo nb fr bl b0 (ps.take (q + 1)) = (okSo nb fr bl b0 (ps.take q) && decide (putC nb fr bl pp.at_ pp.data.length = 0)) := by
          rw [List.take_add_one, hpq]
          exact okSo_snoc nb fr bl b0 (ps.take q) pp
        have HC := hid (checkPut_any (HJ1.out.below (hbt.trans (b2.mono hsw))) h1 pp.at_ pp.ad pp.data.length pp.cap)
        have B2 := hid (hbt.trans (b2.mono hsw))
        have HOK := hid hok
        clear hcell hbt b2 hok hpq
        generalize hpl2 : pp.data.length = dl at *
        clear hpl2
        cases hok2 : okSo nb fr bl b0 (ps.take q)
        · go_wp2_with fail
          go_roundw
          case rel => exact ⟨q + 1, by omega, by go_num, by rw [HOK.out, hok2]; rfl, by rw [← hw2]; exact B2.out⟩
          case measure => simp [intOf]; omega
        · go_wp2_with fail
          rw [← hw2]
          refine Calls.mono HC.out ?_
          rintro e w3 ⟨rfl, b3⟩
          have B3 := hid (B2.out.trans (b3.mono B2.out.size))
          clear b3 HC
          by_cases hcz : putC nb fr bl pp.at_ dl = 0
          · have HZ := hid hcz
            rw [hcz]
            clear hcz hw2 n0 n1 c1 c2
            go_wp2_with fail
            go_roundw
            case rel => exact ⟨q + 1, by omega, by go_num, by rw [HOK.out, hok2, HZ.out]; rfl, B3.out⟩
            case measure => simp [intOf]; omega
          · have HZ := hid hcz
            generalize putC nb fr bl pp.at_ dl = cz at *
            clear hw2 n0 n1 c1 c2
            go_wp2_with fail
            go_roundw
            case rel => exact ⟨q + 1, by omega, by go_num, by rw [HOK.out, hok2, decide_eq_false HZ.out, show (cz == 0) = false by simpa using HZ.out]; rfl, B3.out⟩
            case measure => simp [intOf]; omega
      · have hqn' : ¬ (q : Int) < (N : Int) := by omega
        have hqe : ps.take q = ps := List.take_of_length_le (by omega)
        rw [hqe]
        have HJr := hid (HJ1.out.below hbt)
        have hbw : Below w.heap.size w wr := HB1.out.trans (hbt.mono HB1.out.size)
        cases hok2 : okSo nb fr bl b0 ps
        · have FIN : Hid (okFound nb fr bl s.seq zs = false ∧ (∃ Z', Jq Z' wr j c p room nb K fr bl d s ∧ Gr Z Z' w) ∧ But Z w wr) := ⟨by rw [HE.out, hok2], ⟨_, HJr.out, fun k _ r => r.1⟩, But.of_below hbw⟩
          clear hqe hok2 hbt hbw HJr
          go_wp2
          go_ret
          rw [FIN.out.1]
          exact ⟨rfl, FIN.out.2.1, FIN.out.2.2⟩
        · have hall : (b0 && ps.all fun p => decide (putC nb fr bl p.at_ p.data.length = 0)) = true := hok2
          rw [Bool.and_eq_true] at hall
          have hsq : s.seq < 1099511627776 := HSQ.out hall.1
          have hput : ∀ p ∈ ps, 0 ≤ p.at_ ∧ p.at_ < nb ∧ p.data.length = 512 := fun p hp => by
            have := List.all_eq_true.1 hall.2 p hp
            simp only [decide_eq_true_eq] at this
            have := putC_zero this
            exact ⟨this.2.1, this.2.2.1, this.1⟩
          have HTk := hid (take_any HJr.out hsq pv cq ps (HRP.out.but (But.of_below hbt (X := fun _ => False)) (fun k _ q => q.elim) _ (fun k _ q => q)) hput (by omega))
          rw [hpl] at HTk
          have FIN0 := hid (And.intro (show okFound nb fr bl s.seq zs = true by rw [HE.out, hok2]) hbw)
          clear hqe hok2 hbt hbw HJr hall hsq hput
          go_wp2_with fail
          refine Calls.mono HTk.out ?_
          rintro e w3 ⟨rfl, ⟨Z3, hJ3, hG3⟩, b3⟩
          have FIN : Hid ((∃ Z', Jq Z' w3 j c p room nb K fr bl d ⟨s.life, s.seq + 1, s.used, aheadP s.ah (putsZ zs)⟩ ∧ Gr Z Z' w) ∧ But Z w w3) := by
            have hs := FIN0.out.2.size
            rw [HPS.out.1] at hJ3
            exact ⟨⟨Z3, hJ3, fun k hk r => (hG3 k (by omega) r).1⟩, (But.of_below FIN0.out.2).comp b3 (fun k _ r => r.1)⟩
          clear hJ3 hG3 b3 HTk
          go_wp2
          go_ret
          rw [FIN0.out.1]
          exact ⟨rfl, FIN.out.1, FIN.out.2⟩
end Go.Proofs.YtldlejpacgphmaaGreat
namespace Go.Proofs.YtldlejpacgphmaaGreat
open Go.RowKit
theorem app145 (ty : TypeId) (a : Option Addr) (n c : Nat) (x : Value) (w : World) : (Builtin.append_ #[22, 145] ty #[.slice a n c, x]).run Tryz.prog w = (Builtin.append_ #[22, 22] ty #[.slice a n c, x]).run Tryz.prog w := by
  simp [Builtin.append_, run_underlying Tryz.underlying22, run_underlying Tryz.underlying145]
theorem app146 (ty : TypeId) (a : Option Addr) (n c : Nat) (x : Value) (w : World) : (Builtin.append_ #[22, 146] ty #[.slice a n c, x]).run Tryz.prog w = (Builtin.append_ #[22, 22] ty #[.slice a n c, x]).run Tryz.prog w := by
  simp [Builtin.append_, run_underlying Tryz.underlying22, run_underlying Tryz.underlying146]
theorem as5_143 (u : Value) (w : World) : Sem.run Tryz.prog (Instr.typeAssert (.iface 143 u) 139 145 true) w = .ok (.tuple #[.slice none 0 0, .bool false]) w := by kernel_rfl
theorem as5_145 (u : Value) (w : World) : Sem.run Tryz.prog (Instr.typeAssert (.iface 145 u) 139 145 true) w = .ok (.tuple #[u, .bool true]) w := by kernel_rfl
theorem as5_146 (u : Value) (w : World) : Sem.run Tryz.prog (Instr.typeAssert (.iface 146 u) 139 145 true) w = .ok (.tuple #[.slice none 0 0, .bool false]) w := by kernel_rfl
theorem as5_nil (w : World) : Sem.run Tryz.prog (Instr.typeAssert .nilIface 139 145 true) w = .ok (.tuple #[.slice none 0 0, .bool false]) w := by kernel_rfl
theorem as6_143 (u : Value) (w : World) : Sem.run Tryz.prog (Instr.typeAssert (.iface 143 u) 139 146 true) w = .ok (.tuple #[.slice none 0 0, .bool false]) w := by kernel_rfl
theorem as6_146 (u : Value) (w : World) : Sem.run Tryz.prog (Instr.typeAssert (.iface 146 u) 139 146 true) w = .ok (.tuple #[u, .bool true]) w := by kernel_rfl
theorem as6_nil (w : World) : Sem.run Tryz.prog (Instr.typeAssert .nilIface 139 146 true) w = .ok (.tuple #[.slice none 0 0, .bool false]) w := by kernel_rfl
/-- bytes behind bytes of one's own -/
theorem grow_bytes {w : World} {B n : Nat} {a : Option Addr} {c : Nat} {zs : List Int} (ty : TypeId) (ho : w.ownsRow B 5 1 (.slice a n c) n (zs.map (Value.int .u8))) {g : Nat} {body : List Int} (hB : Blk .u8 5 w g body) (hb : body.length ≤ 497) (hn : n ≤ 1073741823) (hw : B ≤ w.heap.size) :
    ∃ a' c' w', (Builtin.append_ #[22, 22] ty #[.slice a n c, .slice (some ⟨g, 0, none⟩) body.length body.length]).run Tryz.prog w = .ok (.slice a' (n + body.length) c') w' ∧ w'.ownsRow B 5 1 (.slice a' (n + body.length) c') (n + body.length) ((zs ++ body).map (Value.int .u8)) ∧ But (fun k => B ≤ k) w w' := by
  obtain ⟨i0, hi, hz0, hz1, hz2⟩ := info_parts info5
  obtain ⟨v', w', hr, h2, h3, _, _⟩ := run_append_own_at (P := Tryz.prog) w B 22 ty 5 i0 (.int .u8 0) 1 1 Tryz.underlying22 hi hz0 hz1 hz2 rfl (by decide) (.slice a n c) n (zs.map (Value.int .u8)) ho ⟨g, 0, none⟩ body.length body.length (body.map (Value.int .u8)) (by simp) (fun j u hu => by
      rw [Addr.add_lit, Nat.zero_add]
      have hj : j < body.length := by have := (List.getElem?_eq_some_iff.1 hu).1; simpa using this
      rw [hB.cell j hj]
      simp [hj] at hu
      rw [← hu]
      simp [hj]) (fun u hu => by obtain ⟨z, _, rfl⟩ := List.mem_map.1 hu; rfl) (by unfold maxLen; omega) (by omega) hw
  obtain ⟨a', c', rfl, _⟩ := owns_slice h2
  refine ⟨a', c', w', hr, by rw [List.map_append]; exact h2, (But.refl _ w).of_grown h3 (fun x e hx => ?_)⟩
  exact (World.ownsRow.lt ho x e).1
theorem rdn_of_owns {X : Nat → Prop} {w : World} {B n : Nat} {a : Option Addr} {c : Nat} {zs : List Int} (ho : w.ownsRow B 5 1 (.slice a n c) n (zs.map (Value.int .u8))) (hb : Pl.isB zs) (hX : ∀ k, B ≤ k → ¬ X k) : RdN X w a n zs ∧ n ≤ c := by
  have hl : zs.length = n := by have := ho.1; simpa using this
  rcases ho.2 with ⟨e, q⟩ | ⟨g, cap, cur, e, hB, hh, hc, _⟩
  · cases e
    exact ⟨⟨hl, hb, .inl q⟩, by omega⟩
  · simp at e
    obtain ⟨rfl, rfl⟩ := e
    refine ⟨⟨hl, hb, .inr ⟨g, 0, rfl, (Array.getElem?_eq_some_iff.1 hh).1, hX g hB, fun t ht => ?_⟩⟩, hc⟩
    have := World.ownsRow.cellAt ho t (by omega)
    rw [Nat.zero_add, this]
    simp [show t < zs.length by omega]
/-- the log, from a block on: what was found so far, and the journal -/
def logScan (nb fr bl : Nat) (rd : Nat → List Int) : Nat → Nat → List Int → Js → Js
  | 0, _, _, s => s
  | k + 1, i, found, s =>
    match unZ (rd (fr + 1 + i)) with
    | none => s
    | some (kd, l, body) =>
      if l ≠ (s.life : Int) ∨ l = 0 then s
      else if kd = 3 then logScan nb fr bl rd k (i + 1) (found ++ body) s
      else if kd = 4 then
        if okFound nb fr bl s.seq (found ++ body) then logScan nb fr bl rd k (i + 1) [] ⟨s.life, s.seq + 1, i + 1, aheadP s.ah (putsZ (found ++ body))⟩ else s
      else s
end Go.Proofs.YtldlejpacgphmaaGreat
