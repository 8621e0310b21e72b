/-
  The document's heap.
-/
import Derived.Test.YtajnokkmpjdliaaRf3
namespace Go.Proofs.Ytajnokkmpjdliaa
open Go.RowKit

structure GP (n m : Nat) (E : List (Nat × Nat)) (i : Nat) (fs nx : List Int) : Prop where
  fl : fs.length = n
  nl : nx.length = m
  f : ∀ x, x < n → gt fs x = hd (chn E x i) + 1
  x : ∀ j, j < i → gt nx j = hd (chn E (eg E j).1 j) + 1
theorem GP.start {n m : Nat} {E : List (Nat × Nat)} : GP n m E 0 (zeros n) (zeros m) := ⟨by simp [zeros], by simp [zeros], fun x hx => by simp [gt, zeros, List.getD_eq_getElem?_getD, hx, chn, hd], fun j hj => by omega⟩
theorem GP.step {n m : Nat} {E : List (Nat × Nat)} {i : Nat} {fs nx : List Int} (h : GP n m E i fs nx) (hi : i < m) (hb : (eg E i).1 < n) : GP n m E (i + 1) (fs.set (eg E i).1 ((i : Int) + 1)) (nx.set i (gt fs (eg E i).1)) := by
  refine ⟨by rw [List.length_set]; exact h.fl, by rw [List.length_set]; exact h.nl, fun x hx => ?_, fun j hj => ?_⟩
  · rw [gt_set _ _ _ _ (by rw [h.fl]; exact hb)]
    simp only [chn]
    by_cases e : x = (eg E i).1
    · rw [if_pos e, if_pos e.symm]; rfl
    · rw [if_neg e, if_neg (fun q => e q.symm)]; exact h.f x hx
  · rw [gt_set _ _ _ _ (by rw [h.nl]; exact hi)]
    by_cases e : j = i
    · subst e; rw [if_pos rfl]; exact h.f _ hb
    · rw [if_neg e]; exact h.x j (by omega)

def HpQ (n m : Nat) (E : List (Nat × Nat)) (w : World) (e : Ending) (w' : World) : Prop := ∃ Hb lb eb tb ib xb ls fw lt fs nx, e = .returned (.pointer (some ⟨Hb, 0, none⟩)) ∧ Hm w' Hb lb eb tb ib xb n m ls fw lt fs nx ∧ WS n E m ls ∧ RS n ls fw lt ∧ GP n m E m fs nx ∧ (w.heap.size ≤ Hb ∧ w.heap.size ≤ lb ∧ w.heap.size ≤ eb ∧ w.heap.size ≤ tb ∧ w.heap.size ≤ ib ∧ w.heap.size ≤ xb) ∧ Below w.heap.size w w'

set_option maxRecDepth 100000 in
set_option maxHeartbeats 8000000 in
theorem heap_any (n m c : Nat) (a : Option Addr) (E : List (Nat × Nat)) (hn : n ≤ 1048576) (hm : m ≤ 1048576) (w : World) (hR : RdE w a m E) (hE : EdOk n E) :
    Calls Try.prog 25 #[.int .i64 (n : Int), .slice a m c] w (HpQ n m E w) := by
  obtain ⟨PO, hPO⟩ : ∃ PO, PO = HpQ n m E w := ⟨_, rfl⟩
  rw [← hPO]
  have HPO := hid hPO
  obtain ⟨B, hB⟩ : ∃ B, B = w.heap.size := ⟨_, rfl⟩
  have HB := hid hB
  have HR : Hid (∀ W, Below B w W → RdE W a m E) := fun W hb => hR.next (by rw [← hB]; exact hb)
  have HE := hid hE
  have HEl : Hid (E.length = m) := hR.1
  have HM := hid hm
  have HN := hid hn
  obtain ⟨d1, hd1⟩ : ∃ d1, d1 = n / 64 := ⟨_, rfl⟩
  obtain ⟨d2, hd2⟩ : ∃ d2, d2 = n / 4096 := ⟨_, rfl⟩
  obtain ⟨p1, hp1⟩ : ∃ p1, p1 = d1 + 1 := ⟨_, rfl⟩
  obtain ⟨p2, hp2⟩ : ∃ p2, p2 = d2 + 1 := ⟨_, rfl⟩
  have HP1 : Hid (p1 = n / 64 + 1) := by unfold Hid; omega
  have HP2 : Hid (p2 = n / 4096 + 1) := by unfold Hid; omega
  have HM1 := hid (fun u => make_i64 n (by omega) u)
  have HM2 := hid (fun u => make_i64 p1 (by omega) u)
  have HM3 := hid (fun u => make_i64 p2 (by omega) u)
  have HM4 := hid (fun u => make_i64 m (by omega) u)
  have hq1 : (n : Int).tdiv 64 = (d1 : Int) := by rw [Int.tdiv_eq_ediv_of_nonneg (by omega)]; omega
  have hq2 : (n : Int).tdiv 4096 = (d2 : Int) := by rw [Int.tdiv_eq_ediv_of_nonneg (by omega)]; omega
  have hq3 : (n : Int) / 64 = (d1 : Int) := by omega
  have hq4 : (n : Int) / 4096 = (d2 : Int) := by omega
  have hs1 : (d1 : Int) + 1 = (p1 : Int) := by omega
  have hs2 : (d2 : Int) + 1 = (p2 : Int) := by omega
  have e1 := wrN d1 (by omega)
  have e2 := wrN d2 (by omega)
  have e3 := wrN p1 (by omega)
  have e4 := wrN p2 (by omega)
  clear hPO hB hR hE hd1 hd2 hp1 hp2
  go_enter Try.func25, Try.ntmps25
  go_wp2_with fail
  rename_i K hK
  have HREST : FinH K n m c d1 p1 d2 p2 B a w := by
    intro Hb lb eb tb ib xb W hbox hl hf ht hi hx hge hne hb
    refine hK _ _ ?_
    have HH0 : Hid (Hm W Hb lb eb tb ib xb n m (zeros n) (zeros (n / 64 + 1)) (zeros (n / 4096 + 1)) (zeros n) (zeros m) ∧ Below B w W) := by
      refine ⟨⟨?_, hl, ?_, ?_, hi, hx, hne⟩, hb⟩
      · rw [hbox, HP1.out, HP2.out]
      · rw [← HP1.out]; exact hf
      · rw [← HP2.out]; exact ht
    have HGe := hid hge
    clear hK hbox hl hf ht hi hx hge hne hb hq1 hq2 hq3 hq4 hs1 hs2 e1 e2 e3 e4
    go_wp2_with fail
    go_loopw [6] (fun iv wr => ∃ (i : Nat) (ls fs nx : List Int), iv = .int .i64 (i : Int) ∧ i ≤ m ∧ WS n E i ls ∧ GP n m E i fs nx ∧ Hm wr Hb lb eb tb ib xb n m ls (zeros (n / 64 + 1)) (zeros (n / 4096 + 1)) fs nx ∧ Below B w wr) (fun iv _ => m - (intOf iv).toNat)
    case atStart => exact ⟨0, _, _, _, rfl, by omega, WS.start n E, GP.start, HH0.out⟩
    case round =>
      obtain ⟨i, ls, fs, nx, rfl, hi, hws, hgp, hH, hb⟩ := hrel
      clear HH0
      by_cases q : i = m
      · as_aux_lemma =>
          have qq : (m : Int) ≤ (i : Int) := by omega
          rw [q] at hws hgp
          have HWS := hid hws
          have HGP := hid hgp
          have HH1 : Hid (Hm wr Hb lb eb tb ib xb n m ls (zeros (n / 64 + 1)) (zeros (n / 4096 + 1)) fs nx ∧ Below B w wr) := ⟨hH, hb⟩
          clear hws hgp hH hb hi q
          go_wp2_with fail
          clear qq
          generalize decide (i < m) = bq
          generalize wr = wo at *
          go_loopw [7] (fun iv wr => ∃ (j : Nat) (fw lt : List Int), iv = .int .i64 (j : Int) ∧ j ≤ n ∧ RP n j ls fw lt ∧ Hm wr Hb lb eb tb ib xb n m ls fw lt fs nx ∧ Below B w wr) (fun iv _ => n - (intOf iv).toNat)
          case atStart => exact ⟨0, _, _, rfl, by omega, RP.start HWS.out.l, HH1.out⟩
          case round =>
            obtain ⟨j, fw, lt, rfl, hj, hrp, hH, hb⟩ := hrel
            clear HH1
            by_cases q : j = n
            · as_aux_lemma =>
                have HD : Hid (PO (.returned (.pointer (some ⟨Hb, 0, none⟩))) wr) := by
                  unfold Hid
                  rw [HPO.out]
                  rw [q] at hrp
                  have hge := HGe.out
                  rw [HB.out] at hb hge
                  exact ⟨Hb, lb, eb, tb, ib, xb, ls, fw, lt, fs, nx, rfl, hH, HWS.out, hrp.done, HGP.out, hge, hb⟩
                have qq : (n : Int) ≤ (j : Int) := by omega
                clear hj hrp hH hb q
                go_wp2_with fail
                exact HD.out
            · as_aux_lemma =>
                have hjn : j < n := by omega
                have q1 : (j : Int) < (n : Int) := by omega
                have hn1 := HN.out
                have c0 := hH.cells.1
                have c1 := hH.l.cell j (by rw [HWS.out.l]; exact hjn)
                obtain ⟨z, hz⟩ : ∃ z, z = gt ls j := ⟨_, rfl⟩
                rw [show ls.getD j 0 = z from hz.symm] at c1
                by_cases p : z = 0
                · as_aux_lemma =>
                    have HRy : Hid (Calls Try.prog 27 #[.pointer (some ⟨Hb, 0, none⟩), .int .i64 (j : Int), .int .i64 1] wr fun e w' => e = .returned (.tuple #[]) ∧ (j + 1 ≤ n ∧ RP n (j + 1) ls (fw.set (j / 64) (gt fw (j / 64) + 1)) (lt.set (j / 4096) (gt lt (j / 4096) + 1)) ∧ Hm w' Hb lb eb tb ib xb n m ls (fw.set (j / 64) (gt fw (j / 64) + 1)) (lt.set (j / 4096) (gt lt (j / 4096) + 1)) fs nx ∧ Below B w w')) := by
                      have hbd := hrp.bounds
                      refine (ready_any Hb lb eb tb ib xb n m j ls fw lt fs nx 1 (by omega) hjn hn1 wr hH hrp.fl hrp.tl (by have := hbd.1 (j / 64) (by omega); omega) (by have := hbd.2 (j / 4096) (by omega); omega)).mono ?_
                      rintro e w' ⟨rfl, h1, h2⟩
                      refine ⟨rfl, by omega, hrp.yes hjn (by rw [← hz]; exact p), h1, hb.trans (h2.below (by have := hb.size; have := HB.out; omega) (fun k hk e => by have := HGe.out; rcases e with e | e <;> omega))⟩
                    subst p
                    obtain ⟨ew, ewb⟩ := inc_wr j (by omega)
                    clear hz hrp hH hb hj q
                    go_wp2_with fail
                    go_at_call 27
                    refine Calls.mono HRy.out ?_
                    rintro e w' ⟨rfl, h9⟩
                    have H9 := hid h9
                    clear h9 HRy
                    go_wp2_with fail
                    refine ⟨⟨j + 1, _, _, by rw [Int.natCast_add]; rfl, H9.out⟩, ?_⟩
                    exact mea_step H9.out.1
                · as_aux_lemma =>
                    have HNx : Hid (j + 1 ≤ n ∧ RP n (j + 1) ls fw lt ∧ Hm wr Hb lb eb tb ib xb n m ls fw lt fs nx ∧ Below B w wr) := ⟨by omega, hrp.no (by rw [← hz]; exact p), hH, hb⟩
                    obtain ⟨ew, ewb⟩ := inc_wr j (by omega)
                    clear hz hrp hH hb hj q
                    go_wp2_with fail
                    refine ⟨⟨j + 1, _, _, by rw [Int.natCast_add]; rfl, HNx.out⟩, ?_⟩
                    exact mea_step HNx.out.1
      · as_aux_lemma =>
          have him : i < m := by omega
          have q1 : (i : Int) < (m : Int) := by omega
          have hm1 := HM.out
          obtain ⟨g, off, ha, _, _⟩ := (HR.out wr hb).2 i him
          obtain ⟨hb1, hb2⟩ := HE.out _ (eg_mem E (by rw [HEl.out]; exact him))
          have hst := hgp.step him hb1
          have hst2 := hws.step (by rw [HEl.out]; exact him) hb2
          have hwv := hws.v _ hb2
          have hwle := wv_le E i (eg E i).2
          obtain ⟨b, hbb⟩ : ∃ b, b = (eg E i).1 := ⟨_, rfl⟩
          obtain ⟨af, haf⟩ : ∃ af, af = (eg E i).2 := ⟨_, rfl⟩
          have HRc : Hid (∀ W, Below B w W → W.cell? ⟨g, off + i * 2, none⟩ = some (.int .i64 (b : Int)) ∧ W.cell? ⟨g, off + i * 2 + 1, none⟩ = some (.int .i64 (af : Int))) := fun W hW => by
            obtain ⟨g', off', ha', h1, h2⟩ := (HR.out W hW).2 i him
            rw [ha] at ha'
            simp at ha'
            obtain ⟨rfl, rfl⟩ := ha'
            rw [hbb, haf]
            exact ⟨h1, h2⟩
          rw [← hbb] at hb1 hst
          rw [← haf] at hb2 hst2 hwv hwle
          obtain ⟨fx, hfx⟩ : ∃ fx, fx = gt fs b := ⟨_, rfl⟩
          obtain ⟨l, hl⟩ : ∃ l, l = gt ls af := ⟨_, rfl⟩
          rw [← hfx] at hst
          rw [← hl] at hst2 hwv
          obtain ⟨u1, hu1⟩ : ∃ u1, u1 = (wr.setCell ⟨xb, i, none⟩ (.int .i64 fx)).drew := ⟨_, rfl⟩
          obtain ⟨u2, hu2⟩ : ∃ u2, u2 = (u1.setCell ⟨ib, b, none⟩ (.int .i64 ((i : Int) + 1))).drew := ⟨_, rfl⟩
          obtain ⟨u3, hu3⟩ : ∃ u3, u3 = (u2.setCell ⟨lb, af, none⟩ (.int .i64 (l + 1))).drew := ⟨_, rfl⟩
          have hH1 : Hm u1 Hb lb eb tb ib xb n m ls (zeros (n / 64 + 1)) (zeros (n / 4096 + 1)) fs (nx.set i fx) := by rw [hu1]; exact (hH.setX i fx).next (below_drew _ _)
          have hH2 : Hm u2 Hb lb eb tb ib xb n m ls (zeros (n / 64 + 1)) (zeros (n / 4096 + 1)) (fs.set b ((i : Int) + 1)) (nx.set i fx) := by rw [hu2]; exact (hH1.setI b ((i : Int) + 1)).next (below_drew _ _)
          have hH3 : Hm u3 Hb lb eb tb ib xb n m (ls.set af (l + 1)) (zeros (n / 64 + 1)) (zeros (n / 4096 + 1)) (fs.set b ((i : Int) + 1)) (nx.set i fx) := by rw [hu3]; exact (hH2.setL af (l + 1)).next (below_drew _ _)
          have hge := HGe.out
          have hsz : B ≤ wr.heap.size := by have := hb.size; have := HB.out; omega
          have b1 : Below B wr u1 := by rw [hu1]; exact (((but_cell wr xb i _).drew).below hsz (fun k hk e => by omega))
          have b2 : Below B u1 u2 := by rw [hu2]; exact (((but_cell u1 ib b _).drew).below (Nat.le_trans hsz b1.size) (fun k hk e => by omega))
          have b3 : Below B u2 u3 := by rw [hu3]; exact (((but_cell u2 lb af _).drew).below (Nat.le_trans hsz (Nat.le_trans b1.size b2.size)) (fun k hk e => by omega))
          have bw1 := hb.trans b1
          have bw2 := bw1.trans b2
          have bw3 := bw2.trans b3
          have HEnd : Hid (i + 1 ≤ m ∧ WS n E (i + 1) (ls.set af (l + 1)) ∧ GP n m E (i + 1) (fs.set b ((i : Int) + 1)) (nx.set i fx) ∧ Hm u3 Hb lb eb tb ib xb n m (ls.set af (l + 1)) (zeros (n / 64 + 1)) (zeros (n / 4096 + 1)) (fs.set b ((i : Int) + 1)) (nx.set i fx) ∧ Below B w u3) := ⟨by omega, hst2, hst, hH3, bw3⟩
          have HS5 : Hid ((fun y => (y.cell? ⟨Hb, 4, none⟩ = some (.slice (some ⟨xb, 0, none⟩) m m) ∧ y.cell? ⟨Hb, 3, none⟩ = some (.slice (some ⟨ib, 0, none⟩) n n)) ∧ y.cell? ⟨g, off + i * 2, none⟩ = some (.int .i64 (b : Int)) ∧ y.cell? ⟨ib, b, none⟩ = some (.int .i64 fx)) wr.drew) := ⟨⟨hH.cells.2.2.2.2, hH.cells.2.2.2.1⟩, (HRc.out wr hb).1, by rw [hfx]; exact hH.i.cell b (by rw [hgp.fl]; exact hb1)⟩
          have HS6 : Hid ((fun y => y.cell? ⟨Hb, 3, none⟩ = some (.slice (some ⟨ib, 0, none⟩) n n) ∧ y.cell? ⟨g, off + i * 2, none⟩ = some (.int .i64 (b : Int))) u1.drew) := ⟨hH1.cells.2.2.2.1, (HRc.out u1 bw1).1⟩
          have HS7 : Hid ((fun y => y.cell? ⟨Hb, 0, none⟩ = some (.slice (some ⟨lb, 0, none⟩) n n) ∧ y.cell? ⟨g, off + i * 2 + 1, none⟩ = some (.int .i64 (af : Int)) ∧ y.cell? ⟨lb, af, none⟩ = some (.int .i64 l)) u2.drew) := ⟨hH2.cells.1, (HRc.out u2 bw2).2, by rw [hl]; exact hH2.l.cell af (by rw [hws.l]; exact hb2)⟩
          have z5 := hH.x.frozen i
          have z6 := hH1.i.frozen b
          have z7 := hH2.l.frozen af
          obtain ⟨o5, ho5⟩ : ∃ o5, o5 = nx.getD i 0 := ⟨_, rfl⟩
          have y5 : wr.cell? ⟨xb, i, none⟩ = some (.int .i64 o5) := by rw [ho5]; exact hH.x.cell i (by rw [hgp.nl]; exact him)
          have y6 : u1.cell? ⟨ib, b, none⟩ = some (.int .i64 fx) := by rw [hfx]; exact hH1.i.cell b (by rw [hgp.fl]; exact hb1)
          have y7 : u2.cell? ⟨lb, af, none⟩ = some (.int .i64 l) := by rw [hl]; exact hH2.l.cell af (by rw [hws.l]; exact hb2)
          have q5 : (b : Int) < (n : Int) := by omega
          have q6 : 0 ≤ (b : Int) := by omega
          have q7 : (af : Int) < (n : Int) := by omega
          have q8 : 0 ≤ (af : Int) := by omega
          have hx0 : 0 ≤ l := by rw [hwv]; exact hwle.1
          have hx9 : l ≤ (i : Int) := by rw [hwv]; exact hwle.2
          have hx1 := le_1m hx9 him hm1
          have HU1 := hid hu1
          have HU2 := hid hu2
          have HU3 := hid hu3
          obtain ⟨e3, e4⟩ := add_wraps l hx0 hx1
          obtain ⟨ew, ewb⟩ := inc_wr i (by omega)
          clear hH hH1 hH2 hH3 hws hgp hb hi hst hst2 hu1 hu2 hu3 hbb haf hl hfx hb1 hb2 q hm1 hwv hwle hge hsz b1 b2 b3 bw1 bw2 bw3 HRc ho5 hx0 hx9 hx1
          subst ha
          go_wp2_with fail
          refine wp_region_last (S := (fun y => (y.cell? ⟨Hb, 4, none⟩ = some (.slice (some ⟨xb, 0, none⟩) m m) ∧ y.cell? ⟨Hb, 3, none⟩ = some (.slice (some ⟨ib, 0, none⟩) n n)) ∧ y.cell? ⟨g, off + i * 2, none⟩ = some (.int .i64 (b : Int)) ∧ y.cell? ⟨ib, b, none⟩ = some (.int .i64 fx))) 17 17 (by kernel_rfl) (by kernel_rfl) (by kernel_rfl) HS5.out (fun hSS => ?_)
          refine wpAnyH_take (i := 0) (oi := ({ dst := some 31, op := Op.move (Operand.tmp 5), type := 49, pos := _, after := _, guard := none } : Oper)) (v := ?_) rfl (by kernel_rfl) (by kernel_rfl) (by kernel_rfl) (fun _ _ _ h => h) (Or.inl ⟨by rfl, ?_⟩) hSS ?_
          rotate_left
          · intro w9 hSw
            (try dsimp only at hSw)
            (try go_split_ands)
            first | (go_simp; done) | (go_simp; with_reducible rfl)
          try simp only [Act.put, List.setIfInBounds_toArray, List.set_cons_zero, List.set_cons_succ]
          refine wpAnyH_take (i := 1) (oi := ({ dst := some 32, op := Op.nilCheck (Operand.tmp 31), type := 0, pos := _, after := _, guard := none } : Oper)) (v := ?_) rfl (by kernel_rfl) (by kernel_rfl) (by kernel_rfl) (fun _ _ _ h => h) (Or.inl ⟨by rfl, ?_⟩) hSS ?_
          rotate_left
          · intro w9 hSw
            (try dsimp only at hSw)
            (try go_split_ands)
            first | (go_simp; done) | (go_simp; with_reducible rfl)
          try simp only [Act.put, List.setIfInBounds_toArray, List.set_cons_zero, List.set_cons_succ]
          refine wpAnyH_take (i := 2) (oi := ({ dst := some 33, op := Op.fieldAddr 53 (Operand.tmp 32) 4, type := 0, pos := _, after := _, guard := none } : Oper)) (v := ?_) rfl (by kernel_rfl) (by kernel_rfl) (by kernel_rfl) (fun _ _ _ h => h) (Or.inl ⟨by rfl, ?_⟩) hSS ?_
          rotate_left
          · intro w9 hSw
            (try dsimp only at hSw)
            (try go_split_ands)
            first | (go_simp; done) | (go_simp; with_reducible rfl)
          try simp only [Act.put, List.setIfInBounds_toArray, List.set_cons_zero, List.set_cons_succ]
          refine wpAnyH_take (i := 3) (oi := ({ dst := some 34, op := Op.load 23 (Operand.tmp 33), type := 23, pos := _, after := _, guard := none } : Oper)) (v := ?_) rfl (by kernel_rfl) (by kernel_rfl) (by kernel_rfl) (fun _ _ _ h => h) (Or.inl ⟨by rfl, ?_⟩) hSS ?_
          rotate_left
          · intro w9 hSw
            (try dsimp only at hSw)
            (try go_split_ands)
            first | (go_simp; done) | (go_simp; with_reducible rfl)
          try simp only [Act.put, List.setIfInBounds_toArray, List.set_cons_zero, List.set_cons_succ]
          refine wpAnyH_take (i := 4) (oi := ({ dst := some 35, op := Op.move (Operand.tmp 6), type := 3, pos := _, after := _, guard := none } : Oper)) (v := ?_) rfl (by kernel_rfl) (by kernel_rfl) (by kernel_rfl) (fun _ _ _ h => h) (Or.inl ⟨by rfl, ?_⟩) hSS ?_
          rotate_left
          · intro w9 hSw
            (try dsimp only at hSw)
            (try go_split_ands)
            first | (go_simp; done) | (go_simp; with_reducible rfl)
          try simp only [Act.put, List.setIfInBounds_toArray, List.set_cons_zero, List.set_cons_succ]
          refine wpAnyH_take (i := 5) (oi := ({ dst := some 36, op := Op.move (Operand.tmp 5), type := 49, pos := _, after := _, guard := none } : Oper)) (v := ?_) rfl (by kernel_rfl) (by kernel_rfl) (by kernel_rfl) (fun _ _ _ h => h) (Or.inl ⟨by rfl, ?_⟩) hSS ?_
          rotate_left
          · intro w9 hSw
            (try dsimp only at hSw)
            (try go_split_ands)
            first | (go_simp; done) | (go_simp; with_reducible rfl)
          try simp only [Act.put, List.setIfInBounds_toArray, List.set_cons_zero, List.set_cons_succ]
          refine wpAnyH_take (i := 6) (oi := ({ dst := some 37, op := Op.nilCheck (Operand.tmp 36), type := 0, pos := _, after := _, guard := none } : Oper)) (v := ?_) rfl (by kernel_rfl) (by kernel_rfl) (by kernel_rfl) (fun _ _ _ h => h) (Or.inl ⟨by rfl, ?_⟩) hSS ?_
          rotate_left
          · intro w9 hSw
            (try dsimp only at hSw)
            (try go_split_ands)
            first | (go_simp; done) | (go_simp; with_reducible rfl)
          try simp only [Act.put, List.setIfInBounds_toArray, List.set_cons_zero, List.set_cons_succ]
          refine wpAnyH_take (i := 7) (oi := ({ dst := some 38, op := Op.fieldAddr 53 (Operand.tmp 37) 3, type := 0, pos := _, after := _, guard := none } : Oper)) (v := ?_) rfl (by kernel_rfl) (by kernel_rfl) (by kernel_rfl) (fun _ _ _ h => h) (Or.inl ⟨by rfl, ?_⟩) hSS ?_
          rotate_left
          · intro w9 hSw
            (try dsimp only at hSw)
            (try go_split_ands)
            first | (go_simp; done) | (go_simp; with_reducible rfl)
          try simp only [Act.put, List.setIfInBounds_toArray, List.set_cons_zero, List.set_cons_succ]
          refine wpAnyH_take (i := 8) (oi := ({ dst := some 39, op := Op.load 23 (Operand.tmp 38), type := 23, pos := _, after := _, guard := none } : Oper)) (v := ?_) rfl (by kernel_rfl) (by kernel_rfl) (by kernel_rfl) (fun _ _ _ h => h) (Or.inl ⟨by rfl, ?_⟩) hSS ?_
          rotate_left
          · intro w9 hSw
            (try dsimp only at hSw)
            (try go_split_ands)
            first | (go_simp; done) | (go_simp; with_reducible rfl)
          try simp only [Act.put, List.setIfInBounds_toArray, List.set_cons_zero, List.set_cons_succ]
          refine wpAnyH_take (i := 9) (oi := ({ dst := some 40, op := Op.move (Operand.tmp 1), type := 22, pos := _, after := _, guard := none } : Oper)) (v := ?_) rfl (by kernel_rfl) (by kernel_rfl) (by kernel_rfl) (fun _ _ _ h => h) (Or.inl ⟨by rfl, ?_⟩) hSS ?_
          rotate_left
          · intro w9 hSw
            (try dsimp only at hSw)
            (try go_split_ands)
            first | (go_simp; done) | (go_simp; with_reducible rfl)
          try simp only [Act.put, List.setIfInBounds_toArray, List.set_cons_zero, List.set_cons_succ]
          refine wpAnyH_take (i := 10) (oi := ({ dst := some 41, op := Op.move (Operand.tmp 6), type := 3, pos := _, after := _, guard := none } : Oper)) (v := ?_) rfl (by kernel_rfl) (by kernel_rfl) (by kernel_rfl) (fun _ _ _ h => h) (Or.inl ⟨by rfl, ?_⟩) hSS ?_
          rotate_left
          · intro w9 hSw
            (try dsimp only at hSw)
            (try go_split_ands)
            first | (go_simp; done) | (go_simp; with_reducible rfl)
          try simp only [Act.put, List.setIfInBounds_toArray, List.set_cons_zero, List.set_cons_succ]
          refine wpAnyH_take (i := 11) (oi := ({ dst := some 42, op := Op.indexAddr 22 (Operand.tmp 40) (Operand.tmp 41), type := 0, pos := _, after := _, guard := none } : Oper)) (v := ?_) rfl (by kernel_rfl) (by kernel_rfl) (by kernel_rfl) (fun _ _ _ h => h) (Or.inl ⟨by rfl, ?_⟩) hSS ?_
          rotate_left
          · intro w9 hSw
            (try dsimp only at hSw)
            (try go_split_ands)
            first | (go_simp; done) | (go_simp; with_reducible rfl)
          try simp only [Act.put, List.setIfInBounds_toArray, List.set_cons_zero, List.set_cons_succ]
          refine wpAnyH_take (i := 12) (oi := ({ dst := some 43, op := Op.fieldAddr 28 (Operand.tmp 42) 0, type := 0, pos := _, after := _, guard := none } : Oper)) (v := ?_) rfl (by kernel_rfl) (by kernel_rfl) (by kernel_rfl) (fun _ _ _ h => h) (Or.inl ⟨by rfl, ?_⟩) hSS ?_
          rotate_left
          · intro w9 hSw
            (try dsimp only at hSw)
            (try go_split_ands)
            first | (go_simp; done) | (go_simp; with_reducible rfl)
          try simp only [Act.put, List.setIfInBounds_toArray, List.set_cons_zero, List.set_cons_succ]
          refine wpAnyH_take (i := 13) (oi := ({ dst := some 44, op := Op.load 3 (Operand.tmp 43), type := 3, pos := _, after := _, guard := none } : Oper)) (v := ?_) rfl (by kernel_rfl) (by kernel_rfl) (by kernel_rfl) (fun _ _ _ h => h) (Or.inl ⟨by rfl, ?_⟩) hSS ?_
          rotate_left
          · intro w9 hSw
            (try dsimp only at hSw)
            (try go_split_ands)
            first | (go_simp; done) | (go_simp; with_reducible rfl)
          try simp only [Act.put, List.setIfInBounds_toArray, List.set_cons_zero, List.set_cons_succ]
          refine wpAnyH_take (i := 14) (oi := ({ dst := some 45, op := Op.indexAddr 23 (Operand.tmp 39) (Operand.tmp 44), type := 0, pos := _, after := _, guard := none } : Oper)) (v := ?_) rfl (by kernel_rfl) (by kernel_rfl) (by kernel_rfl) (fun _ _ _ h => h) (Or.inl ⟨by rfl, ?_⟩) hSS ?_
          rotate_left
          · intro w9 hSw
            (try dsimp only at hSw)
            (try go_split_ands)
            first | (go_simp; done) | (go_simp; with_reducible rfl)
          try simp only [Act.put, List.setIfInBounds_toArray, List.set_cons_zero, List.set_cons_succ]
          refine wpAnyH_take (i := 15) (oi := ({ dst := some 46, op := Op.load 3 (Operand.tmp 45), type := 3, pos := _, after := _, guard := none } : Oper)) (v := ?_) rfl (by kernel_rfl) (by kernel_rfl) (by kernel_rfl) (fun _ _ _ h => h) (Or.inl ⟨by rfl, ?_⟩) hSS ?_
          rotate_left
          · intro w9 hSw
            (try dsimp only at hSw)
            (try go_split_ands)
            first | (go_simp; done) | (go_simp; with_reducible rfl)
          try simp only [Act.put, List.setIfInBounds_toArray, List.set_cons_zero, List.set_cons_succ]
          refine wpAnyH_take (i := 16) (oi := ({ dst := some 47, op := Op.indexAddr 23 (Operand.tmp 34) (Operand.tmp 35), type := 0, pos := _, after := _, guard := none } : Oper)) (v := ?_) rfl (by kernel_rfl) (by kernel_rfl) (by kernel_rfl) (fun _ _ _ h => h) (Or.inl ⟨by rfl, ?_⟩) hSS ?_
          rotate_left
          · intro w9 hSw
            (try dsimp only at hSw)
            (try go_split_ands)
            first | (go_simp; done) | (go_simp; with_reducible rfl)
          try simp only [Act.put, List.setIfInBounds_toArray, List.set_cons_zero, List.set_cons_succ]
          refine wpAnyH_done (by kernel_rfl) ?_ _
          refine last_step (L := 17) (o := ({ dst := none, op := Op.store 3 (Operand.tmp 47) (Operand.tmp 46), type := 0, pos := _, after := _, guard := none } : Oper)) rfl (fun K9 hK9 => ?_)
          go_simp
          refine hK9.out _ _ ?_
          clear hK9 K9
          try simp only [Act.put, List.setIfInBounds_toArray, List.set_cons_zero, List.set_cons_succ]
          rw [← HU1.out]
          go_wp2_with fail
          refine wp_region_last (S := (fun y => y.cell? ⟨Hb, 3, none⟩ = some (.slice (some ⟨ib, 0, none⟩) n n) ∧ y.cell? ⟨g, off + i * 2, none⟩ = some (.int .i64 (b : Int)))) 12 12 (by kernel_rfl) (by kernel_rfl) (by kernel_rfl) HS6.out (fun hSS => ?_)
          refine wpAnyH_take (i := 0) (oi := ({ dst := some 48, op := Op.move (Operand.tmp 5), type := 49, pos := _, after := _, guard := none } : Oper)) (v := ?_) rfl (by kernel_rfl) (by kernel_rfl) (by kernel_rfl) (fun _ _ _ h => h) (Or.inl ⟨by rfl, ?_⟩) hSS ?_
          rotate_left
          · intro w9 hSw
            (try dsimp only at hSw)
            (try go_split_ands)
            first | (go_simp; done) | (go_simp; with_reducible rfl)
          try simp only [Act.put, List.setIfInBounds_toArray, List.set_cons_zero, List.set_cons_succ]
          refine wpAnyH_take (i := 1) (oi := ({ dst := some 49, op := Op.nilCheck (Operand.tmp 48), type := 0, pos := _, after := _, guard := none } : Oper)) (v := ?_) rfl (by kernel_rfl) (by kernel_rfl) (by kernel_rfl) (fun _ _ _ h => h) (Or.inl ⟨by rfl, ?_⟩) hSS ?_
          rotate_left
          · intro w9 hSw
            (try dsimp only at hSw)
            (try go_split_ands)
            first | (go_simp; done) | (go_simp; with_reducible rfl)
          try simp only [Act.put, List.setIfInBounds_toArray, List.set_cons_zero, List.set_cons_succ]
          refine wpAnyH_take (i := 2) (oi := ({ dst := some 50, op := Op.fieldAddr 53 (Operand.tmp 49) 3, type := 0, pos := _, after := _, guard := none } : Oper)) (v := ?_) rfl (by kernel_rfl) (by kernel_rfl) (by kernel_rfl) (fun _ _ _ h => h) (Or.inl ⟨by rfl, ?_⟩) hSS ?_
          rotate_left
          · intro w9 hSw
            (try dsimp only at hSw)
            (try go_split_ands)
            first | (go_simp; done) | (go_simp; with_reducible rfl)
          try simp only [Act.put, List.setIfInBounds_toArray, List.set_cons_zero, List.set_cons_succ]
          refine wpAnyH_take (i := 3) (oi := ({ dst := some 51, op := Op.load 23 (Operand.tmp 50), type := 23, pos := _, after := _, guard := none } : Oper)) (v := ?_) rfl (by kernel_rfl) (by kernel_rfl) (by kernel_rfl) (fun _ _ _ h => h) (Or.inl ⟨by rfl, ?_⟩) hSS ?_
          rotate_left
          · intro w9 hSw
            (try dsimp only at hSw)
            (try go_split_ands)
            first | (go_simp; done) | (go_simp; with_reducible rfl)
          try simp only [Act.put, List.setIfInBounds_toArray, List.set_cons_zero, List.set_cons_succ]
          refine wpAnyH_take (i := 4) (oi := ({ dst := some 52, op := Op.move (Operand.tmp 1), type := 22, pos := _, after := _, guard := none } : Oper)) (v := ?_) rfl (by kernel_rfl) (by kernel_rfl) (by kernel_rfl) (fun _ _ _ h => h) (Or.inl ⟨by rfl, ?_⟩) hSS ?_
          rotate_left
          · intro w9 hSw
            (try dsimp only at hSw)
            (try go_split_ands)
            first | (go_simp; done) | (go_simp; with_reducible rfl)
          try simp only [Act.put, List.setIfInBounds_toArray, List.set_cons_zero, List.set_cons_succ]
          refine wpAnyH_take (i := 5) (oi := ({ dst := some 53, op := Op.move (Operand.tmp 6), type := 3, pos := _, after := _, guard := none } : Oper)) (v := ?_) rfl (by kernel_rfl) (by kernel_rfl) (by kernel_rfl) (fun _ _ _ h => h) (Or.inl ⟨by rfl, ?_⟩) hSS ?_
          rotate_left
          · intro w9 hSw
            (try dsimp only at hSw)
            (try go_split_ands)
            first | (go_simp; done) | (go_simp; with_reducible rfl)
          try simp only [Act.put, List.setIfInBounds_toArray, List.set_cons_zero, List.set_cons_succ]
          refine wpAnyH_take (i := 6) (oi := ({ dst := some 54, op := Op.indexAddr 22 (Operand.tmp 52) (Operand.tmp 53), type := 0, pos := _, after := _, guard := none } : Oper)) (v := ?_) rfl (by kernel_rfl) (by kernel_rfl) (by kernel_rfl) (fun _ _ _ h => h) (Or.inl ⟨by rfl, ?_⟩) hSS ?_
          rotate_left
          · intro w9 hSw
            (try dsimp only at hSw)
            (try go_split_ands)
            first | (go_simp; done) | (go_simp; with_reducible rfl)
          try simp only [Act.put, List.setIfInBounds_toArray, List.set_cons_zero, List.set_cons_succ]
          refine wpAnyH_take (i := 7) (oi := ({ dst := some 55, op := Op.fieldAddr 28 (Operand.tmp 54) 0, type := 0, pos := _, after := _, guard := none } : Oper)) (v := ?_) rfl (by kernel_rfl) (by kernel_rfl) (by kernel_rfl) (fun _ _ _ h => h) (Or.inl ⟨by rfl, ?_⟩) hSS ?_
          rotate_left
          · intro w9 hSw
            (try dsimp only at hSw)
            (try go_split_ands)
            first | (go_simp; done) | (go_simp; with_reducible rfl)
          try simp only [Act.put, List.setIfInBounds_toArray, List.set_cons_zero, List.set_cons_succ]
          refine wpAnyH_take (i := 8) (oi := ({ dst := some 56, op := Op.load 3 (Operand.tmp 55), type := 3, pos := _, after := _, guard := none } : Oper)) (v := ?_) rfl (by kernel_rfl) (by kernel_rfl) (by kernel_rfl) (fun _ _ _ h => h) (Or.inl ⟨by rfl, ?_⟩) hSS ?_
          rotate_left
          · intro w9 hSw
            (try dsimp only at hSw)
            (try go_split_ands)
            first | (go_simp; done) | (go_simp; with_reducible rfl)
          try simp only [Act.put, List.setIfInBounds_toArray, List.set_cons_zero, List.set_cons_succ]
          refine wpAnyH_take (i := 9) (oi := ({ dst := some 57, op := Op.move (Operand.tmp 6), type := 3, pos := _, after := _, guard := none } : Oper)) (v := ?_) rfl (by kernel_rfl) (by kernel_rfl) (by kernel_rfl) (fun _ _ _ h => h) (Or.inl ⟨by rfl, ?_⟩) hSS ?_
          rotate_left
          · intro w9 hSw
            (try dsimp only at hSw)
            (try go_split_ands)
            first | (go_simp; done) | (go_simp; with_reducible rfl)
          try simp only [Act.put, List.setIfInBounds_toArray, List.set_cons_zero, List.set_cons_succ]
          refine wpAnyH_take (i := 10) (oi := ({ dst := some 58, op := Op.binOp BinOp.add 3 (Operand.tmp 57) (Operand.const (Value.int IntKind.i64 1)) 3, type := 3, pos := _, after := _, guard := none } : Oper)) (v := ?_) rfl (by kernel_rfl) (by kernel_rfl) (by kernel_rfl) (fun _ _ _ h => h) (Or.inl ⟨by rfl, ?_⟩) hSS ?_
          rotate_left
          · intro w9 hSw
            (try dsimp only at hSw)
            (try go_split_ands)
            first | (go_simp; done) | (go_simp; with_reducible rfl)
          try simp only [Act.put, List.setIfInBounds_toArray, List.set_cons_zero, List.set_cons_succ]
          refine wpAnyH_take (i := 11) (oi := ({ dst := some 59, op := Op.indexAddr 23 (Operand.tmp 51) (Operand.tmp 56), type := 0, pos := _, after := _, guard := none } : Oper)) (v := ?_) rfl (by kernel_rfl) (by kernel_rfl) (by kernel_rfl) (fun _ _ _ h => h) (Or.inl ⟨by rfl, ?_⟩) hSS ?_
          rotate_left
          · intro w9 hSw
            (try dsimp only at hSw)
            (try go_split_ands)
            first | (go_simp; done) | (go_simp; with_reducible rfl)
          try simp only [Act.put, List.setIfInBounds_toArray, List.set_cons_zero, List.set_cons_succ]
          refine wpAnyH_done (by kernel_rfl) ?_ _
          refine last_step (L := 12) (o := ({ dst := none, op := Op.store 3 (Operand.tmp 59) (Operand.tmp 58), type := 0, pos := _, after := _, guard := none } : Oper)) rfl (fun K9 hK9 => ?_)
          go_simp
          refine hK9.out _ _ ?_
          clear hK9 K9
          try simp only [Act.put, List.setIfInBounds_toArray, List.set_cons_zero, List.set_cons_succ]
          rw [← HU2.out]
          go_wp2_with fail
          refine wp_region_last (S := (fun y => y.cell? ⟨Hb, 0, none⟩ = some (.slice (some ⟨lb, 0, none⟩) n n) ∧ y.cell? ⟨g, off + i * 2 + 1, none⟩ = some (.int .i64 (af : Int)) ∧ y.cell? ⟨lb, af, none⟩ = some (.int .i64 l))) 22 22 (by kernel_rfl) (by kernel_rfl) (by kernel_rfl) HS7.out (fun hSS => ?_)
          refine wpAnyH_take (i := 0) (oi := ({ dst := some 60, op := Op.move (Operand.tmp 5), type := 49, pos := _, after := _, guard := none } : Oper)) (v := ?_) rfl (by kernel_rfl) (by kernel_rfl) (by kernel_rfl) (fun _ _ _ h => h) (Or.inl ⟨by rfl, ?_⟩) hSS ?_
          rotate_left
          · intro w9 hSw
            (try dsimp only at hSw)
            (try go_split_ands)
            first | (go_simp; done) | (go_simp; with_reducible rfl)
          try simp only [Act.put, List.setIfInBounds_toArray, List.set_cons_zero, List.set_cons_succ]
          refine wpAnyH_take (i := 1) (oi := ({ dst := some 61, op := Op.nilCheck (Operand.tmp 60), type := 0, pos := _, after := _, guard := none } : Oper)) (v := ?_) rfl (by kernel_rfl) (by kernel_rfl) (by kernel_rfl) (fun _ _ _ h => h) (Or.inl ⟨by rfl, ?_⟩) hSS ?_
          rotate_left
          · intro w9 hSw
            (try dsimp only at hSw)
            (try go_split_ands)
            first | (go_simp; done) | (go_simp; with_reducible rfl)
          try simp only [Act.put, List.setIfInBounds_toArray, List.set_cons_zero, List.set_cons_succ]
          refine wpAnyH_take (i := 2) (oi := ({ dst := some 62, op := Op.fieldAddr 53 (Operand.tmp 61) 0, type := 0, pos := _, after := _, guard := none } : Oper)) (v := ?_) rfl (by kernel_rfl) (by kernel_rfl) (by kernel_rfl) (fun _ _ _ h => h) (Or.inl ⟨by rfl, ?_⟩) hSS ?_
          rotate_left
          · intro w9 hSw
            (try dsimp only at hSw)
            (try go_split_ands)
            first | (go_simp; done) | (go_simp; with_reducible rfl)
          try simp only [Act.put, List.setIfInBounds_toArray, List.set_cons_zero, List.set_cons_succ]
          refine wpAnyH_take (i := 3) (oi := ({ dst := some 63, op := Op.load 23 (Operand.tmp 62), type := 23, pos := _, after := _, guard := none } : Oper)) (v := ?_) rfl (by kernel_rfl) (by kernel_rfl) (by kernel_rfl) (fun _ _ _ h => h) (Or.inl ⟨by rfl, ?_⟩) hSS ?_
          rotate_left
          · intro w9 hSw
            (try dsimp only at hSw)
            (try go_split_ands)
            first | (go_simp; done) | (go_simp; with_reducible rfl)
          try simp only [Act.put, List.setIfInBounds_toArray, List.set_cons_zero, List.set_cons_succ]
          refine wpAnyH_take (i := 4) (oi := ({ dst := some 64, op := Op.move (Operand.tmp 1), type := 22, pos := _, after := _, guard := none } : Oper)) (v := ?_) rfl (by kernel_rfl) (by kernel_rfl) (by kernel_rfl) (fun _ _ _ h => h) (Or.inl ⟨by rfl, ?_⟩) hSS ?_
          rotate_left
          · intro w9 hSw
            (try dsimp only at hSw)
            (try go_split_ands)
            first | (go_simp; done) | (go_simp; with_reducible rfl)
          try simp only [Act.put, List.setIfInBounds_toArray, List.set_cons_zero, List.set_cons_succ]
          refine wpAnyH_take (i := 5) (oi := ({ dst := some 65, op := Op.move (Operand.tmp 6), type := 3, pos := _, after := _, guard := none } : Oper)) (v := ?_) rfl (by kernel_rfl) (by kernel_rfl) (by kernel_rfl) (fun _ _ _ h => h) (Or.inl ⟨by rfl, ?_⟩) hSS ?_
          rotate_left
          · intro w9 hSw
            (try dsimp only at hSw)
            (try go_split_ands)
            first | (go_simp; done) | (go_simp; with_reducible rfl)
          try simp only [Act.put, List.setIfInBounds_toArray, List.set_cons_zero, List.set_cons_succ]
          refine wpAnyH_take (i := 6) (oi := ({ dst := some 66, op := Op.indexAddr 22 (Operand.tmp 64) (Operand.tmp 65), type := 0, pos := _, after := _, guard := none } : Oper)) (v := ?_) rfl (by kernel_rfl) (by kernel_rfl) (by kernel_rfl) (fun _ _ _ h => h) (Or.inl ⟨by rfl, ?_⟩) hSS ?_
          rotate_left
          · intro w9 hSw
            (try dsimp only at hSw)
            (try go_split_ands)
            first | (go_simp; done) | (go_simp; with_reducible rfl)
          try simp only [Act.put, List.setIfInBounds_toArray, List.set_cons_zero, List.set_cons_succ]
          refine wpAnyH_take (i := 7) (oi := ({ dst := some 67, op := Op.fieldAddr 28 (Operand.tmp 66) 1, type := 0, pos := _, after := _, guard := none } : Oper)) (v := ?_) rfl (by kernel_rfl) (by kernel_rfl) (by kernel_rfl) (fun _ _ _ h => h) (Or.inl ⟨by rfl, ?_⟩) hSS ?_
          rotate_left
          · intro w9 hSw
            (try dsimp only at hSw)
            (try go_split_ands)
            first | (go_simp; done) | (go_simp; with_reducible rfl)
          try simp only [Act.put, List.setIfInBounds_toArray, List.set_cons_zero, List.set_cons_succ]
          refine wpAnyH_take (i := 8) (oi := ({ dst := some 68, op := Op.load 3 (Operand.tmp 67), type := 3, pos := _, after := _, guard := none } : Oper)) (v := ?_) rfl (by kernel_rfl) (by kernel_rfl) (by kernel_rfl) (fun _ _ _ h => h) (Or.inl ⟨by rfl, ?_⟩) hSS ?_
          rotate_left
          · intro w9 hSw
            (try dsimp only at hSw)
            (try go_split_ands)
            first | (go_simp; done) | (go_simp; with_reducible rfl)
          try simp only [Act.put, List.setIfInBounds_toArray, List.set_cons_zero, List.set_cons_succ]
          refine wpAnyH_take (i := 9) (oi := ({ dst := some 69, op := Op.move (Operand.tmp 5), type := 49, pos := _, after := _, guard := none } : Oper)) (v := ?_) rfl (by kernel_rfl) (by kernel_rfl) (by kernel_rfl) (fun _ _ _ h => h) (Or.inl ⟨by rfl, ?_⟩) hSS ?_
          rotate_left
          · intro w9 hSw
            (try dsimp only at hSw)
            (try go_split_ands)
            first | (go_simp; done) | (go_simp; with_reducible rfl)
          try simp only [Act.put, List.setIfInBounds_toArray, List.set_cons_zero, List.set_cons_succ]
          refine wpAnyH_take (i := 10) (oi := ({ dst := some 70, op := Op.nilCheck (Operand.tmp 69), type := 0, pos := _, after := _, guard := none } : Oper)) (v := ?_) rfl (by kernel_rfl) (by kernel_rfl) (by kernel_rfl) (fun _ _ _ h => h) (Or.inl ⟨by rfl, ?_⟩) hSS ?_
          rotate_left
          · intro w9 hSw
            (try dsimp only at hSw)
            (try go_split_ands)
            first | (go_simp; done) | (go_simp; with_reducible rfl)
          try simp only [Act.put, List.setIfInBounds_toArray, List.set_cons_zero, List.set_cons_succ]
          refine wpAnyH_take (i := 11) (oi := ({ dst := some 71, op := Op.fieldAddr 53 (Operand.tmp 70) 0, type := 0, pos := _, after := _, guard := none } : Oper)) (v := ?_) rfl (by kernel_rfl) (by kernel_rfl) (by kernel_rfl) (fun _ _ _ h => h) (Or.inl ⟨by rfl, ?_⟩) hSS ?_
          rotate_left
          · intro w9 hSw
            (try dsimp only at hSw)
            (try go_split_ands)
            first | (go_simp; done) | (go_simp; with_reducible rfl)
          try simp only [Act.put, List.setIfInBounds_toArray, List.set_cons_zero, List.set_cons_succ]
          refine wpAnyH_take (i := 12) (oi := ({ dst := some 72, op := Op.load 23 (Operand.tmp 71), type := 23, pos := _, after := _, guard := none } : Oper)) (v := ?_) rfl (by kernel_rfl) (by kernel_rfl) (by kernel_rfl) (fun _ _ _ h => h) (Or.inl ⟨by rfl, ?_⟩) hSS ?_
          rotate_left
          · intro w9 hSw
            (try dsimp only at hSw)
            (try go_split_ands)
            first | (go_simp; done) | (go_simp; with_reducible rfl)
          try simp only [Act.put, List.setIfInBounds_toArray, List.set_cons_zero, List.set_cons_succ]
          refine wpAnyH_take (i := 13) (oi := ({ dst := some 73, op := Op.move (Operand.tmp 1), type := 22, pos := _, after := _, guard := none } : Oper)) (v := ?_) rfl (by kernel_rfl) (by kernel_rfl) (by kernel_rfl) (fun _ _ _ h => h) (Or.inl ⟨by rfl, ?_⟩) hSS ?_
          rotate_left
          · intro w9 hSw
            (try dsimp only at hSw)
            (try go_split_ands)
            first | (go_simp; done) | (go_simp; with_reducible rfl)
          try simp only [Act.put, List.setIfInBounds_toArray, List.set_cons_zero, List.set_cons_succ]
          refine wpAnyH_take (i := 14) (oi := ({ dst := some 74, op := Op.move (Operand.tmp 6), type := 3, pos := _, after := _, guard := none } : Oper)) (v := ?_) rfl (by kernel_rfl) (by kernel_rfl) (by kernel_rfl) (fun _ _ _ h => h) (Or.inl ⟨by rfl, ?_⟩) hSS ?_
          rotate_left
          · intro w9 hSw
            (try dsimp only at hSw)
            (try go_split_ands)
            first | (go_simp; done) | (go_simp; with_reducible rfl)
          try simp only [Act.put, List.setIfInBounds_toArray, List.set_cons_zero, List.set_cons_succ]
          refine wpAnyH_take (i := 15) (oi := ({ dst := some 75, op := Op.indexAddr 22 (Operand.tmp 73) (Operand.tmp 74), type := 0, pos := _, after := _, guard := none } : Oper)) (v := ?_) rfl (by kernel_rfl) (by kernel_rfl) (by kernel_rfl) (fun _ _ _ h => h) (Or.inl ⟨by rfl, ?_⟩) hSS ?_
          rotate_left
          · intro w9 hSw
            (try dsimp only at hSw)
            (try go_split_ands)
            first | (go_simp; done) | (go_simp; with_reducible rfl)
          try simp only [Act.put, List.setIfInBounds_toArray, List.set_cons_zero, List.set_cons_succ]
          refine wpAnyH_take (i := 16) (oi := ({ dst := some 76, op := Op.fieldAddr 28 (Operand.tmp 75) 1, type := 0, pos := _, after := _, guard := none } : Oper)) (v := ?_) rfl (by kernel_rfl) (by kernel_rfl) (by kernel_rfl) (fun _ _ _ h => h) (Or.inl ⟨by rfl, ?_⟩) hSS ?_
          rotate_left
          · intro w9 hSw
            (try dsimp only at hSw)
            (try go_split_ands)
            first | (go_simp; done) | (go_simp; with_reducible rfl)
          try simp only [Act.put, List.setIfInBounds_toArray, List.set_cons_zero, List.set_cons_succ]
          refine wpAnyH_take (i := 17) (oi := ({ dst := some 77, op := Op.load 3 (Operand.tmp 76), type := 3, pos := _, after := _, guard := none } : Oper)) (v := ?_) rfl (by kernel_rfl) (by kernel_rfl) (by kernel_rfl) (fun _ _ _ h => h) (Or.inl ⟨by rfl, ?_⟩) hSS ?_
          rotate_left
          · intro w9 hSw
            (try dsimp only at hSw)
            (try go_split_ands)
            first | (go_simp; done) | (go_simp; with_reducible rfl)
          try simp only [Act.put, List.setIfInBounds_toArray, List.set_cons_zero, List.set_cons_succ]
          refine wpAnyH_take (i := 18) (oi := ({ dst := some 78, op := Op.indexAddr 23 (Operand.tmp 72) (Operand.tmp 77), type := 0, pos := _, after := _, guard := none } : Oper)) (v := ?_) rfl (by kernel_rfl) (by kernel_rfl) (by kernel_rfl) (fun _ _ _ h => h) (Or.inl ⟨by rfl, ?_⟩) hSS ?_
          rotate_left
          · intro w9 hSw
            (try dsimp only at hSw)
            (try go_split_ands)
            first | (go_simp; done) | (go_simp; with_reducible rfl)
          try simp only [Act.put, List.setIfInBounds_toArray, List.set_cons_zero, List.set_cons_succ]
          refine wpAnyH_take (i := 19) (oi := ({ dst := some 79, op := Op.load 3 (Operand.tmp 78), type := 3, pos := _, after := _, guard := none } : Oper)) (v := ?_) rfl (by kernel_rfl) (by kernel_rfl) (by kernel_rfl) (fun _ _ _ h => h) (Or.inl ⟨by rfl, ?_⟩) hSS ?_
          rotate_left
          · intro w9 hSw
            (try dsimp only at hSw)
            (try go_split_ands)
            first | (go_simp; done) | (go_simp; with_reducible rfl)
          try simp only [Act.put, List.setIfInBounds_toArray, List.set_cons_zero, List.set_cons_succ]
          refine wpAnyH_take (i := 20) (oi := ({ dst := some 80, op := Op.binOp BinOp.add 3 (Operand.tmp 79) (Operand.const (Value.int IntKind.i64 1)) 3, type := 3, pos := _, after := _, guard := none } : Oper)) (v := ?_) rfl (by kernel_rfl) (by kernel_rfl) (by kernel_rfl) (fun _ _ _ h => h) (Or.inl ⟨by rfl, ?_⟩) hSS ?_
          rotate_left
          · intro w9 hSw
            (try dsimp only at hSw)
            (try go_split_ands)
            first | (go_simp; done) | (go_simp; with_reducible rfl)
          try simp only [Act.put, List.setIfInBounds_toArray, List.set_cons_zero, List.set_cons_succ]
          refine wpAnyH_take (i := 21) (oi := ({ dst := some 81, op := Op.indexAddr 23 (Operand.tmp 63) (Operand.tmp 68), type := 0, pos := _, after := _, guard := none } : Oper)) (v := ?_) rfl (by kernel_rfl) (by kernel_rfl) (by kernel_rfl) (fun _ _ _ h => h) (Or.inl ⟨by rfl, ?_⟩) hSS ?_
          rotate_left
          · intro w9 hSw
            (try dsimp only at hSw)
            (try go_split_ands)
            first | (go_simp; done) | (go_simp; with_reducible rfl)
          try simp only [Act.put, List.setIfInBounds_toArray, List.set_cons_zero, List.set_cons_succ]
          refine wpAnyH_done (by kernel_rfl) ?_ _
          refine last_step (L := 22) (o := ({ dst := none, op := Op.store 3 (Operand.tmp 81) (Operand.tmp 80), type := 0, pos := _, after := _, guard := none } : Oper)) rfl (fun K9 hK9 => ?_)
          go_simp
          refine hK9.out _ _ ?_
          clear hK9 K9
          try simp only [Act.put, List.setIfInBounds_toArray, List.set_cons_zero, List.set_cons_succ]
          rw [← HU3.out]
          go_wp2_with fail
          refine ⟨⟨i + 1, _, _, _, by rw [Int.natCast_add]; rfl, HEnd.out⟩, ?_⟩
          exact mea_step HEnd.out.1
  refine wp_region_held_drew (S := (fun _ => True)) (by kernel_rfl) trivial (fun hSS => ?_)
  refine wpAnyH_take (i := 0) (oi := ({ dst := some 8, op := Op.move (Operand.tmp 0), type := 3, pos := _, after := _, guard := none } : Oper)) (v := ?_) rfl (by kernel_rfl) (by kernel_rfl) (by kernel_rfl) (fun _ _ _ h => h) (Or.inl ⟨by rfl, ?_⟩) hSS ?_
  rotate_left
  · intro w9 hSw
    (try dsimp only at hSw)
    (try go_split_ands)
    first | (go_simp; done) | (go_simp; with_reducible rfl)
  try simp only [Act.put, List.setIfInBounds_toArray, List.set_cons_zero, List.set_cons_succ]
  refine wpAnyH_take (i := 2) (oi := ({ dst := some 10, op := Op.move (Operand.tmp 0), type := 3, pos := _, after := _, guard := none } : Oper)) (v := ?_) rfl (by kernel_rfl) (by kernel_rfl) (by kernel_rfl) (fun _ _ _ h => h) (Or.inl ⟨by rfl, ?_⟩) hSS ?_
  rotate_left
  · intro w9 hSw
    (try dsimp only at hSw)
    (try go_split_ands)
    first | (go_simp; done) | (go_simp; with_reducible rfl)
  try simp only [Act.put, List.setIfInBounds_toArray, List.set_cons_zero, List.set_cons_succ]
  refine wpAnyH_take (i := 3) (oi := ({ dst := some 11, op := Op.binOp BinOp.quo 3 (Operand.tmp 10) (Operand.const (Value.int IntKind.i64 64)) 3, type := 3, pos := _, after := _, guard := none } : Oper)) (v := ?_) rfl (by kernel_rfl) (by kernel_rfl) (by kernel_rfl) (fun _ _ _ h => h) (Or.inl ⟨by rfl, ?_⟩) hSS ?_
  rotate_left
  · intro w9 hSw
    (try dsimp only at hSw)
    (try go_split_ands)
    first | (go_simp; done) | (go_simp; with_reducible rfl)
  try simp only [Act.put, List.setIfInBounds_toArray, List.set_cons_zero, List.set_cons_succ]
  refine wpAnyH_take (i := 4) (oi := ({ dst := some 12, op := Op.binOp BinOp.add 3 (Operand.tmp 11) (Operand.const (Value.int IntKind.i64 1)) 3, type := 3, pos := _, after := _, guard := none } : Oper)) (v := ?_) rfl (by kernel_rfl) (by kernel_rfl) (by kernel_rfl) (fun _ _ _ h => h) (Or.inl ⟨by rfl, ?_⟩) hSS ?_
  rotate_left
  · intro w9 hSw
    (try dsimp only at hSw)
    (try go_split_ands)
    first | (go_simp; done) | (go_simp; with_reducible rfl)
  try simp only [Act.put, List.setIfInBounds_toArray, List.set_cons_zero, List.set_cons_succ]
  refine wpAnyH_take (i := 6) (oi := ({ dst := some 14, op := Op.move (Operand.tmp 0), type := 3, pos := _, after := _, guard := none } : Oper)) (v := ?_) rfl (by kernel_rfl) (by kernel_rfl) (by kernel_rfl) (fun _ _ _ h => h) (Or.inl ⟨by rfl, ?_⟩) hSS ?_
  rotate_left
  · intro w9 hSw
    (try dsimp only at hSw)
    (try go_split_ands)
    first | (go_simp; done) | (go_simp; with_reducible rfl)
  try simp only [Act.put, List.setIfInBounds_toArray, List.set_cons_zero, List.set_cons_succ]
  refine wpAnyH_take (i := 7) (oi := ({ dst := some 15, op := Op.binOp BinOp.quo 3 (Operand.tmp 14) (Operand.const (Value.int IntKind.i64 4096)) 3, type := 3, pos := _, after := _, guard := none } : Oper)) (v := ?_) rfl (by kernel_rfl) (by kernel_rfl) (by kernel_rfl) (fun _ _ _ h => h) (Or.inl ⟨by rfl, ?_⟩) hSS ?_
  rotate_left
  · intro w9 hSw
    (try dsimp only at hSw)
    (try go_split_ands)
    first | (go_simp; done) | (go_simp; with_reducible rfl)
  try simp only [Act.put, List.setIfInBounds_toArray, List.set_cons_zero, List.set_cons_succ]
  refine wpAnyH_take (i := 8) (oi := ({ dst := some 16, op := Op.binOp BinOp.add 3 (Operand.tmp 15) (Operand.const (Value.int IntKind.i64 1)) 3, type := 3, pos := _, after := _, guard := none } : Oper)) (v := ?_) rfl (by kernel_rfl) (by kernel_rfl) (by kernel_rfl) (fun _ _ _ h => h) (Or.inl ⟨by rfl, ?_⟩) hSS ?_
  rotate_left
  · intro w9 hSw
    (try dsimp only at hSw)
    (try go_split_ands)
    first | (go_simp; done) | (go_simp; with_reducible rfl)
  try simp only [Act.put, List.setIfInBounds_toArray, List.set_cons_zero, List.set_cons_succ]
  refine wpAnyH_take (i := 10) (oi := ({ dst := some 18, op := Op.move (Operand.tmp 0), type := 3, pos := _, after := _, guard := none } : Oper)) (v := ?_) rfl (by kernel_rfl) (by kernel_rfl) (by kernel_rfl) (fun _ _ _ h => h) (Or.inl ⟨by rfl, ?_⟩) hSS ?_
  rotate_left
  · intro w9 hSw
    (try dsimp only at hSw)
    (try go_split_ands)
    first | (go_simp; done) | (go_simp; with_reducible rfl)
  try simp only [Act.put, List.setIfInBounds_toArray, List.set_cons_zero, List.set_cons_succ]
  refine wpAnyH_take (i := 12) (oi := ({ dst := some 20, op := Op.move (Operand.tmp 1), type := 22, pos := _, after := _, guard := none } : Oper)) (v := ?_) rfl (by kernel_rfl) (by kernel_rfl) (by kernel_rfl) (fun _ _ _ h => h) (Or.inl ⟨by rfl, ?_⟩) hSS ?_
  rotate_left
  · intro w9 hSw
    (try dsimp only at hSw)
    (try go_split_ands)
    first | (go_simp; done) | (go_simp; with_reducible rfl)
  try simp only [Act.put, List.setIfInBounds_toArray, List.set_cons_zero, List.set_cons_succ]
  refine wpAnyH_take (i := 13) (oi := ({ dst := some 21, op := Op.call { callee := Callee.builtin Builtin.len, args := #[Operand.tmp 20], argTypes := #[22] }, type := 3, pos := _, after := _, guard := none } : Oper)) (v := ?_) rfl (by kernel_rfl) (by kernel_rfl) (by kernel_rfl) (fun _ _ _ h => h) (Or.inl ⟨by rfl, ?_⟩) hSS ?_
  rotate_left
  · intro w9 hSw
    (try dsimp only at hSw)
    (try go_split_ands)
    first | (go_simp; done) | (go_simp; with_reducible rfl)
  try simp only [Act.put, List.setIfInBounds_toArray, List.set_cons_zero, List.set_cons_succ]
  exact mk0 n m c d1 p1 d2 p2 B a w HM1.out HM2.out HM3.out HM4.out HREST w.drew (below_drew _ _) (by rw [HB.out]; exact Nat.le_refl _)
end Go.Proofs.Ytajnokkmpjdliaa
