/-
  circle.
-/
import Derived.Test.YtajnokkmpjdliaaCi1
namespace Go.Proofs.Ytajnokkmpjdliaa
open Go.RowKit

def CcQ (n : Nat) (E : List (Nat × Nat)) (w : World) (e : Ending) (w' : World) : Prop := ∃ ov l, e = .returned ov ∧ w'.ownsRow w.heap.size 3 1 ov l.length (nv l) ∧ Below w.heap.size w w' ∧ (¬ (ordP n E).length < n → l = []) ∧ ((ordP n E).length < n → Ring n E l)
theorem own_sl {B : Nat} {e : TypeId} {n m : Nat} {w : World} {v : Value} {xs : List Value} (h : w.ownsRow B e n v m xs) : ∃ a c, v = .slice a m c := by
  rcases own_form h with ⟨e, hn⟩ | ⟨g, c, e, _⟩
  · exact ⟨none, 0, by rw [e, hn]⟩
  · exact ⟨_, c, e⟩
theorem nv_map (p : List Nat) : nv p = (p.map fun (k : Nat) => (k : Int)).map (Value.int .i64) := by simp [nv]
theorem mea_pa {n L : Nat} {a : Option Addr} {c g c2 : Nat} (h : L < n) : n - lenS (.slice (some ⟨g, 0, none⟩) (L + 1) c2) < n - lenS (.slice a L c) := by
  simp only [lenS]
  omega
theorem nv_snoc (p : List Nat) (x : Nat) : ((p.map fun (k : Nat) => (k : Int)) ++ [(x : Int)]).map (Value.int .i64) = nv (p ++ [x]) := by simp [nv]

set_option maxRecDepth 100000 in
set_option maxHeartbeats 8000000 in
theorem circle_any (n m c Gb fb nb : Nat) (a : Option Addr) (E : List (Nat × Nat)) (fs nx : List Int) (hn : n ≤ 1048576) (hm : m ≤ 1048576) (w : World) (hG : Gr w Gb fb nb n m a c fs nx) (hS : GS n m E m fs nx) (hR : RdE w a m E) (hE : EdOk n E) :
    Calls Try.prog 21 #[.pointer (some ⟨Gb, 0, none⟩)] w (CcQ n E w) := by
  obtain ⟨PO, hPO⟩ : ∃ PO, PO = CcQ n E w := ⟨_, rfl⟩
  rw [← hPO]
  have HPO := hid hPO
  obtain ⟨B, hB⟩ : ∃ B, B = w.heap.size := ⟨_, rfl⟩
  have HB := hid hB
  have HG : Hid (∀ W, Below B w W → Gr W Gb fb nb n m a c fs nx) := fun W hb => hG.next (by rw [← hB]; exact hb)
  have HR : Hid (∀ W, Below B w W → RdE W a m E) := fun W hb => hR.next (by rw [← hB]; exact hb)
  have HE := hid hE
  have HEl : Hid (E.length = m) := hR.1
  have HM := hid hm
  have HN := hid hn
  have hmk := fun u => make_i64 n (by omega) u
  have HRp : Hid (∀ (X : Nat) (u : World), u.cell? ⟨X, 0, none⟩ = some (.int .i64 (-1)) → Calls Try.prog 28 #[.slice (some ⟨X, 0, none⟩) 1 1, .int .i64 (n : Int)] u (RpQ n (-1) u)) := fun X u h => Repeat_any n X (-1) hn u h
  have HAr := hid (arranged_any n m c Gb fb nb a E fs nx hn hm w hG hS hR hE)
  clear hPO hB hG hS hR hE hn hm
  go_enter Try.func21, Try.ntmps21
  go_wp2_with fail
  go_at_call 29
  refine Calls.mono HAr.out ?_
  rintro e w1 ⟨ov0, wb, ws, rfl, hov, hwk, hwb, _, hwl, hwv, hb1⟩
  rw [← HB.out] at hwb hb1
  have g0 := (HG.out w1 hb1).cells.1
  obtain ⟨w2, hw2⟩ : ∃ w2, w2 = w1.alloc (.cells ((zeros n).map (Value.int .i64)).toArray 3) := ⟨_, rfl⟩
  have b12 : Below w1.heap.size w1 w2 := by rw [hw2]; exact below1 _ _
  have hsz1 : B ≤ w1.heap.size := by have := hwk.lt; omega
  have hb2 : Below B w w2 := hb1.trans (b12.mono hsz1)
  have hab : Blk w2 w1.heap.size (zeros n) := by rw [hw2]; exact Blk.new w1 (zeros n)
  have hwk2 := hwk.below b12 hwk.lt
  have g1 := (HG.out w2 hb2).cells.2.1
  have HW2 := hid hw2
  have HWV : Hid (ws.length = n ∧ ∀ y, y < n → gt ws y = cnt E (ordP n E) y) := ⟨hwl, hwv⟩
  have HAB : Hid (B ≤ w1.heap.size ∧ B ≤ wb ∧ wb < w1.heap.size) := ⟨hsz1, hwb, hwk.lt⟩
  have HI0 : Hid (Blk w2 w1.heap.size (zeros n) ∧ Blk w2 wb ws ∧ Below B w w2) := ⟨hab, hwk2, hb2⟩
  rw [hw2] at g1
  clear HAr hwk hwb hwl hwv hb1 b12 hsz1 hb2 hab hwk2 hw2
  obtain ⟨a0, c0, rfl⟩ := own_sl hov
  obtain ⟨L0, hL0⟩ : ∃ L0, L0 = (ordP n E).length := ⟨_, rfl⟩
  rw [← hL0]
  clear hov hL0
  go_wp2_with fail
  rw [← HW2.out]
  obtain ⟨ab, hab⟩ : ∃ ab, ab = w1.heap.size := ⟨_, rfl⟩
  rw [← hab]
  rw [← hab] at HI0 HAB
  clear hab HW2 g0 g1 hmk
  go_loopw [27, 6] (fun iv tv wr => ∃ (i : Nat) (ah : List Int) (t : Int), iv = .int .i64 (i : Int) ∧ tv = .int .i64 t ∧ i ≤ m ∧ AhS n E i ah t ∧ Blk wr ab ah ∧ Blk wr wb ws ∧ Below B w wr) (fun iv _ _ => m - (intOf iv).toNat)
  case atStart => exact ⟨0, _, -1, rfl, rfl, by omega, AhS.start n E, HI0.out⟩
  case round =>
    obtain ⟨i, ah, t, rfl, rfl, hi, hah, hA, hW, hb⟩ := hrel
    clear HI0
    by_cases q : i = m
    · have qq : (m : Int) ≤ (i : Int) := by omega
      rw [q, ← HEl.out] at hah
      by_cases hst : (ordP n E).length < n
      · obtain ⟨e9, he1, he2⟩ := (stk_some HE.out).1 hst
        obtain ⟨j9, hj9, rfl⟩ := List.getElem_of_mem he1
        obtain ⟨t0, rfl, hts⟩ := hah.t1 ⟨j9, hj9, by rw [eg_get E hj9]; exact he2⟩
        have HALL := hid (hah.all HE.out)
        have HAL : Hid (ah.length = n) := hah.l
        have HST := hid hst
        have ht0 : t0 < n := hts.1
        have q3 : ¬ (t0 : Int) < 0 := by omega
        have g0 := (HG.out wr hb).cells.1
        obtain ⟨u1, hu1⟩ : ∃ u1, u1 = wr.alloc (.cells #[.int .i64 (-1)] 3) := ⟨_, rfl⟩
        have b01 := below1 wr (.cells #[.int .i64 (-1)] 3)
        rw [← hu1] at b01
        have hsz : B ≤ wr.heap.size := by have := hA.lt; have := HAB.out; omega
        have hbu := hb.trans (b01.mono hsz)
        have hx1 : u1.cell? ⟨wr.heap.size, 0, none⟩ = some (.int .i64 (-1)) := by rw [hu1]; exact cell_new1 wr _ _
        have g1 := (HG.out u1 hbu).cells.1
        have HRp1 : Hid (Calls Try.prog 28 #[.slice (some ⟨wr.heap.size, 0, none⟩) 1 1, .int .i64 (n : Int)] u1 fun e u2 => ∃ mb, e = .returned (.slice (some ⟨mb, 0, none⟩) n n) ∧ Blk u2 mb (rep n (-1)) ∧ Blk u2 ab ah ∧ mb ≠ ab ∧ B ≤ mb ∧ Below B w u2) := by
          refine (HRp.out wr.heap.size u1 hx1).mono ?_
          rintro e u2 ⟨mb, rfl, h1, h2, h3⟩
          have hA1 := hA.below b01 hA.lt
          have := hA.lt
          have := b01.size
          exact ⟨mb, rfl, h2, hA1.below h3 hA1.lt, by omega, by omega, hbu.trans (h3.mono (by omega))⟩
        have HTS : Hid (Stk n E t0) := hts
        have HU1 := hid hu1
        rw [hu1] at g1
        clear hi hah hA hW hb q hst he1 he2 hj9 hts hu1 b01 hsz hbu hx1 ht0
        go_wp2_with fail
        rw [← HU1.out]
        go_at_call 28
        refine Calls.mono HRp1.out ?_
        rintro e u2 ⟨mb, rfl, k1, k2, k3, k4, k5⟩
        have HI1 : Hid (Blk u2 mb (rep n (-1)) ∧ Blk u2 ab ah ∧ Below B w u2) := ⟨k1, k2, k5⟩
        have HMB : Hid (mb ≠ ab ∧ B ≤ mb) := ⟨k3, k4⟩
        clear k1 k2 k3 k4 k5 HRp1 HU1 g0 g1 qq q3
        generalize decide (i < m) = bq
        generalize wr = wo at *
        go_wp2_with fail
        go_loopw [6, 9] (fun tv pv wr => ∃ (t : Nat) (p : List Nat) (L : Nat) (pa : Option Addr) (pc : Nat) (mt : List Int), tv = .int .i64 (t : Int) ∧ pv = .slice pa L pc ∧ p.length = L ∧ PaS n E ah mt p t ∧ Blk wr mb mt ∧ Blk wr ab ah ∧ wr.ownsRow B 3 1 (.slice pa L pc) L (nv p) ∧ (∀ g, (Value.slice pa L pc).ownBlock = some g → g ≠ mb ∧ g ≠ ab) ∧ Below B w wr) (fun _ pv _ => n - lenS pv)
        case atStart => exact ⟨t0, [], 0, none, 0, _, rfl, rfl, rfl, PaS.start HTS.out, HI1.out.1, HI1.out.2.1, ⟨rfl, .inl ⟨rfl, rfl⟩⟩, by simp [Value.ownBlock], HI1.out.2.2⟩
        case round =>
          obtain ⟨t, p, L, pa, pc, mt, rfl, rfl, hL, hpa, hM, hA, how, hnb, hb⟩ := hrel
          clear HI1
          obtain ⟨z, hz⟩ : ∃ z, z = gt mt t := ⟨_, rfl⟩
          have htn := hpa.ts.1
          have d1 := hM.cell t (by rw [hpa.ml]; exact htn)
          rw [show mt.getD t 0 = z from hz.symm] at d1
          have q1 : (t : Int) < (n : Int) := by omega
          have q2 : 0 ≤ (t : Int) := by omega
          have hn9 := HN.out
          by_cases hzn : z < 0
          · obtain ⟨x, hx, hpa2⟩ := hpa.step HALL.out (by rw [← hz]; exact hzn)
            rw [hL] at hpa2
            have hLn : L < n := by
              have := hpa2.len
              rw [List.length_append, List.length_singleton] at this
              omega
            obtain ⟨u1, hu1⟩ : ∃ u1, u1 = wr.setCell ⟨mb, t, none⟩ (.int .i64 (L : Int)) := ⟨_, rfl⟩
            have hbt := (But.refl (fun k => k = mb) wr).setCell (p := ⟨mb, t, none⟩) rfl (.int .i64 (L : Int))
            rw [← hu1] at hbt
            have hbt' : But (fun k => k = mb) wr u1 := hbt
            have hM1 : Blk u1 mb (mt.set t (L : Int)) := by rw [hu1]; exact hM.set t L
            have hA1 := hA.of_block (hbt'.block ab hA.lt (fun e => HMB.out.1 e.symm))
            have how1 := own_keep how fun g hg => hbt'.block g (own_lt how hg) (hnb g hg).1
            have hsz : B ≤ wr.heap.size := by have := hM.lt; have := HMB.out; omega
            rw [nv_map] at how1
            obtain ⟨g2, c2, w2, hrun, r1, r2, r3⟩ := push_runs 23 Try.underlying23 B pa L pc (p.map fun (k : Nat) => (k : Int)) (t : Int) (by rw [List.length_map]; exact hL) (by omega) u1 (by have := hbt'.size; omega) how1
            rw [nv_snoc] at r1
            have hM2 := hM1.but r2 (fun e => (hnb _ e.symm).1 rfl)
            have hA2 := hA1.but r2 (fun e => (hnb _ e.symm).2 rfl)
            have e1 := hA2.cell t (by rw [HAL.out]; exact htn)
            rw [show ah.getD t 0 = (x : Int) from hx] at e1
            have d2 := hM.frozen t
            have HEnd : Hid ((p ++ [t]).length = L + 1 ∧ PaS n E ah (mt.set t (L : Int)) (p ++ [t]) x ∧ Blk w2 mb (mt.set t (L : Int)) ∧ Blk w2 ab ah ∧ w2.ownsRow B 3 1 (.slice (some ⟨g2, 0, none⟩) (L + 1) c2) (L + 1) (nv (p ++ [t])) ∧ (∀ g, (Value.slice (some ⟨g2, 0, none⟩) (L + 1) c2).ownBlock = some g → g ≠ mb ∧ g ≠ ab) ∧ Below B w w2) := by
              refine ⟨by rw [List.length_append, List.length_singleton, hL], hpa2, hM2, hA2, r1, fun g hg => ?_, (hb.trans (hbt'.below hsz (fun k hk e => by have := HMB.out; omega))).trans (r2.below (by have := hbt'.size; omega) (fun k hk e => by have := (own_blk how e.symm).1; omega))⟩
              simp [Value.ownBlock] at hg
              subst hg
              rcases r3 with r3 | r3
              · exact hnb _ r3
              · have := hM1.lt
                have := hA1.lt
                exact ⟨by omega, by omega⟩
            have HLn := hid hLn
            have hse : wr.heap.size = u1.heap.size := by rw [hu1]; simp
            have HU1 := hid hu1
            clear hz hpa hM hA how hnb hb hx hpa2 hLn hu1 hbt hbt' hM1 hA1 how1 hsz r1 r2 r3 hM2 hA2 htn hL hn9
            go_wp2_with (at_builtin; rw [← HU1.out]; (try rw [hse]); refine Lib.wpList_append_run _ rfl _ _ _ _ rfl _ _ rfl rfl _ _ hrun ?_)
            refine ⟨⟨x, _, L + 1, _, c2, _, rfl, rfl, HEnd.out⟩, ?_⟩
            exact mea_pa HLn.out
          · obtain ⟨k, hk, hkL, hRing⟩ := hpa.ring HALL.out (by rw [← hz]; exact hzn)
            have hzk : z = (k : Int) := by rw [hz]; exact hk
            rw [hL] at hkL
            rcases own_form how with ⟨_, hn0⟩ | ⟨g, c', hs, hgb⟩
            · omega
            simp at hs
            obtain ⟨rfl, rfl⟩ := hs
            have hLc : L ≤ pc := by
              rcases how.2 with ⟨hh, _⟩ | ⟨g', cap, cur, hh, _, _, hle, _⟩
              · simp at hh
              · simp at hh
                rw [hh.2]; exact hle
            have hLn : L ≤ n := by rw [← hL]; exact hpa.len
            have hdl : (p.drop k).length = L - k := by rw [List.length_drop, hL]
            have HCl : Hid (Calls Try.prog 30 #[.slice (some ⟨g, k, none⟩) (L - k) (pc - k)] wr fun e w3 => ∃ g2 c2, e = .returned (.slice (some ⟨g2, 0, none⟩) (L - k) c2) ∧ Calls Try.prog 31 #[.slice (some ⟨g2, 0, none⟩) (L - k) c2] w3 fun e w4 => e = .returned (.tuple #[]) ∧ PO (.returned (.slice (some ⟨g2, 0, none⟩) (L - k) c2)) w4) := by
              refine (Clone_any g k (L - k) (pc - k) (p.drop k) hdl (by omega) wr (fun i hi => ?_)).mono ?_
              · rw [nv_cell how hL (k + i) (by omega), List.getD_eq_getElem?_getD, List.getD_eq_getElem?_getD, List.getElem?_drop]
              · rintro e w3 ⟨g2, c2, rfl, k1, k2⟩
                refine ⟨g2, c2, rfl, (Reverse_any wr.heap.size g2 (L - k) c2 (p.drop k) hdl (by omega) (by omega) w3 k1).mono ?_⟩
                rintro e w4 ⟨rfl, k3, k4⟩
                refine ⟨rfl, ?_⟩
                rw [HPO.out]
                have hg2 := (own_blk k1 (g := g2) rfl).1
                have hsz : B ≤ wr.heap.size := by have := hM.lt; have := HMB.out; omega
                refine ⟨_, (p.drop k).reverse, rfl, ?_, ?_, fun h => absurd HST.out h, fun _ => hRing⟩
                · rw [List.length_reverse, hdl, ← HB.out]
                  exact own_mono k3 hsz
                · rw [← HB.out]
                  exact (hb.trans (k2.mono hsz)).trans (k4.below (by have := k2.size; omega) (fun k hk e => by omega))
            have q3 : (k : Int) ≤ (L : Int) := by omega
            have q4 : 0 ≤ (k : Int) := by omega
            have q5 : (L : Int) ≤ (pc : Int) := by omega
            have q6 : k ≤ L := by omega
            have q7 : ¬ pc = k := by omega
            rw [hzk] at d1
            clear hz hpa hM hA how hnb hb hk hRing hzk hzn hdl hLn htn hL hn9 hgb hkL
            go_wp2_with fail
            go_at_call 30
            refine Calls.mono HCl.out ?_
            rintro e w3 ⟨g2, c2, rfl, hRv⟩
            have HRv := hid hRv
            clear HCl hRv d1
            go_wp2_with fail
            go_at_call 31
            refine Calls.mono HRv.out ?_
            rintro e w4 ⟨rfl, hPO⟩
            have HD := hid hPO
            clear HRv hPO
            go_wp2_with fail
            exact HD.out
      · have ht : t = -1 := hah.t0 fun j hj hs => hst ((stk_some HE.out).2 ⟨_, eg_mem E hj, hs⟩)
        have HD : Hid (PO (.returned (.slice none 0 0)) wr) := by
          unfold Hid
          rw [HPO.out]
          exact ⟨_, [], rfl, ⟨rfl, .inl ⟨rfl, rfl⟩⟩, by rw [← HB.out]; exact hb, fun _ => rfl, fun h => absurd h hst⟩
        subst ht
        clear hi hah hA hW hb q hst
        go_wp2_with fail
        exact HD.out
    · have him : i < m := by omega
      have q1 : (i : Int) < (m : Int) := by omega
      have hm1 := HM.out
      obtain ⟨g, off, ha, c1, c2⟩ := (HR.out wr hb).2 i him
      have g1 := (HG.out wr hb).cells.2.1
      have hiE : i < E.length := by rw [HEl.out]; exact him
      obtain ⟨hb1, hb2⟩ := HE.out _ (eg_mem E hiE)
      have hyes := fun hs => hah.yes HE.out hiE hs
      have hno := fun hs => hah.no (i := i) hs
      have hsk : Stk n E (eg E i).1 ↔ gt ws (eg E i).1 ≠ 0 := by
        unfold Stk
        rw [HWV.out.2 _ hb1]
        constructor
        · intro h; have := h.2; omega
        · intro h; exact ⟨hb1, by omega⟩
      have hw0 : 0 ≤ gt ws (eg E i).1 := by rw [HWV.out.2 _ hb1]; omega
      obtain ⟨b, hbb⟩ : ∃ b, b = (eg E i).1 := ⟨_, rfl⟩
      obtain ⟨af, haf⟩ : ∃ af, af = (eg E i).2 := ⟨_, rfl⟩
      rw [← hbb] at c1 hb1 hyes hno hsk hw0
      rw [← haf] at c2 hb2 hyes
      obtain ⟨z, hz⟩ : ∃ z, z = gt ws b := ⟨_, rfl⟩
      rw [← hz] at hsk hw0
      obtain ⟨u1, hu1⟩ : ∃ u1, u1 = wr.alloc (.cells #[.int .i64 (b : Int), .int .i64 (af : Int)] 28) := ⟨_, rfl⟩
      have b01 := below1 wr (.cells #[.int .i64 (b : Int), .int .i64 (af : Int)] 28)
      rw [← hu1] at b01
      have hsz : B ≤ wr.heap.size := by have := hA.lt; have := HAB.out; omega
      have hA1 := hA.below b01 hA.lt
      have hW1 := hW.below b01 hW.lt
      have he1 : u1.heap[wr.heap.size]? = some (.cells #[.int .i64 (b : Int), .int .i64 (af : Int)] 28 (0, 0)) := by rw [hu1]; exact heap_new _ _
      have d1 : u1.cell? ⟨wr.heap.size, 0, none⟩ = some (.int .i64 (b : Int)) := by simp [World.cell?, he1]
      have d2 : u1.cell? ⟨wr.heap.size, 1, none⟩ = some (.int .i64 (af : Int)) := by simp [World.cell?, he1]
      have d3 := hW1.cell b (by rw [HWV.out.1]; exact hb1)
      rw [show ws.getD b 0 = z from hz.symm] at d3
      have q5 : (b : Int) < (n : Int) := by omega
      have q6 : 0 ≤ (b : Int) := by omega
      have q7 : (af : Int) < (n : Int) := by omega
      have q8 : 0 ≤ (af : Int) := by omega
      by_cases hs : Stk n E b
      · have hz1 : 0 < z := by have := hsk.1 hs; omega
        obtain ⟨u2, hu2⟩ : ∃ u2, u2 = u1.setCell ⟨ab, af, none⟩ (.int .i64 (b : Int)) := ⟨_, rfl⟩
        have hbt := (But.refl (fun k => k = ab) u1).setCell (p := ⟨ab, af, none⟩) rfl (.int .i64 (b : Int))
        rw [← hu2] at hbt
        have hbt' : But (fun k => k = ab) u1 u2 := hbt
        have he2 : u2.heap[wr.heap.size]? = some (.cells #[.int .i64 (b : Int), .int .i64 (af : Int)] 28 (0, 0)) := (hbt'.block _ (by rw [hu1]; simp) (by have := hA.lt; omega)).trans he1
        have d4 : u2.cell? ⟨wr.heap.size, 1, none⟩ = some (.int .i64 (af : Int)) := by simp [World.cell?, he2]
        have d5 := hA1.frozen af
        obtain ⟨o, ho⟩ : ∃ o, o = ah.getD af 0 := ⟨_, rfl⟩
        have d6 := hA1.cell af (by rw [hah.l]; exact hb2)
        rw [← ho] at d6
        have HEnd : Hid (i + 1 ≤ m ∧ AhS n E (i + 1) (ah.set af (b : Int)) (af : Int) ∧ Blk u2 ab (ah.set af (b : Int)) ∧ Blk u2 wb ws ∧ Below B w u2) := ⟨by omega, hyes hs, by rw [hu2]; exact hA1.set af b, hW1.of_block (hbt'.block wb hW1.lt (by have := HAB.out; omega)), (hb.trans (b01.mono hsz)).trans (hbt'.below (by have := b01.size; omega) (fun k hk e => by have := HAB.out; omega))⟩
        have HU2 := hid hu2
        obtain ⟨ew, ewb⟩ := inc_w i (by omega)
        rw [hu1] at HU2 d1 d2 d3 d5 d6
        rw [HU2.out] at d4
        clear hi hah hA hW hb q hm1 hiE hb1 hb2 hyes hno hsk hw0 hbb haf hz hu1 b01 hsz hA1 hW1 he1 hs hu2 hbt hbt' he2 ho
        subst ha
        go_wp2_with fail
        rw [← HU2.out]
        refine ⟨⟨i + 1, _, (af : Int), by rw [Int.natCast_add]; rfl, rfl, HEnd.out⟩, ?_⟩
        exact mea_st (Nat.lt_succ_self i) (Nat.lt_of_le_of_lt HEnd.out.1 (Nat.lt_succ_self m)) |> fun h => by simp only [intOf] at h ⊢; omega
      · have hz1 : z ≤ 0 := by
          by_cases e : z = 0
          · omega
          · exact absurd (hsk.2 e) hs
        have HEnd : Hid (i + 1 ≤ m ∧ AhS n E (i + 1) ah t ∧ Blk u1 ab ah ∧ Blk u1 wb ws ∧ Below B w u1) := ⟨by omega, hno hs, hA1, hW1, hb.trans (b01.mono hsz)⟩
        have HU1 := hid hu1
        obtain ⟨ew, ewb⟩ := inc_w i (by omega)
        rw [hu1] at d1 d2 d3
        clear hi hah hA hW hb q hm1 hiE hb1 hb2 hyes hno hsk hw0 hbb haf hz hu1 b01 hsz hA1 hW1 he1 hs
        subst ha
        go_wp2_with fail
        rw [← HU1.out]
        refine ⟨⟨i + 1, _, t, by rw [Int.natCast_add]; rfl, rfl, HEnd.out⟩, ?_⟩
        have h9 := HEnd.out.1
        simp only [intOf]
        omega
end Go.Proofs.Ytajnokkmpjdliaa
