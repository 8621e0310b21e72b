/-
  The document's: Tokens.
-/
import Derived.Test.YtoifmiloaefanaaRe3
import Derived.Test.YtoifmiloaefanaaTl2
import Derived.Lib.AppendZeros
namespace Go.Proofs.Ytoifmiloaefanaa
open Go.RowKit

set_option maxRecDepth 100000 in
set_option maxHeartbeats 2000000 in
theorem rTokens_long (a : Option Addr) (n c : Nat) (zs : List Int) (w : World) (hn : 65536 < n) (hz : zs.length = n) :
    Calls Try.prog 9 #[.slice a n c] w (TkQ zs w.heap.size w) := by
  have hq : lexP zs = ([], 0, 180) := by unfold lexP; rw [if_pos (by omega)]
  have hn' : (65536 : Int) < (n : Int) := by omega
  have HF : Hid (TkQ zs w.heap.size w (.returned (.tuple #[.slice none 0 0, .int .i64 0, .int .i64 180])) w) := ⟨_, by rw [hq]; rfl, by rw [hq]; exact OwT.nil _ _, Below.refl _ _⟩
  generalize TkQ zs w.heap.size w = PO at *
  clear hq hz
  go_enter Try.func9, Try.ntmps9
  go_wp2
  go_ret3
  exact HF.out
set_option maxRecDepth 100000 in
set_option maxHeartbeats 2000000 in
theorem rskip_nil (a : Option Addr) (c : Nat) (w : World) : Calls Try.prog 16 #[.slice a 0 c, .int .i64 0] w fun e w' => e = .returned (.int .i64 0) ∧ w' = w := by
  go_enter Try.func16, Try.ntmps16
  go_wp2
  go_loop [1] (fun kv => kv = .int .i64 0) (fun _ => 0)
  case atStart => rfl
  case round =>
    subst hrel
    go_wp2
    go_ret
    exact ⟨rfl, rfl⟩
set_option maxRecDepth 100000 in
set_option maxHeartbeats 2000000 in
theorem rTokens_nil (a : Option Addr) (c : Nat) (w : World) : Calls Try.prog 9 #[.slice a 0 c] w (TkQ [] w.heap.size w) := by
  have hq : lexP [] = ([], 0, 0) := rfl
  have HF : Hid (TkQ [] w.heap.size w (.returned (.tuple #[.slice none 0 0, .int .i64 0, .int .i64 0])) w) := ⟨_, by rw [hq]; rfl, by rw [hq]; exact OwT.nil _ _, Below.refl _ _⟩
  generalize TkQ [] w.heap.size w = PO at *
  have H16 := hid (rskip_nil a c w)
  clear hq
  go_enter Try.func9, Try.ntmps9
  go_wp2_with (go_at_call 16; refine Calls.mono H16.out ?_; rintro e w1 ⟨rfl, rfl⟩)
  go_loop [5, 6] (fun vv kv => vv = .slice none 0 0 ∧ kv = .int .i64 0) (fun _ _ => 0)
  case atStart => exact ⟨rfl, rfl⟩
  case round =>
    obtain ⟨rfl, rfl⟩ := hrel
    go_wp2
    go_ret3
    exact HF.out

/-- a round's calls -/
def RtR (b0 off n c : Nat) (zs : List Int) (p : Nat) (r : Tk × Nat × Int) (v : Value) (wr : World) (Qe : World → Prop) (Qo : Value → World → Prop) : Prop :=
  Calls Try.prog 17 #[.slice (some ⟨b0, off, none⟩) n c, .int .i64 (p : Int)] wr fun e w1 => ∃ tk s tn ta, e = .returned (.tuple #[.agg (tcs tk s tn ta), .int .i64 (r.2.1 : Int), .int .i64 r.2.2]) ∧
    (r.2.2 ≠ 0 → Qe (w1.alloc (.cells (tcs tk s tn ta) 29))) ∧
    (r.2.2 = 0 → ∃ qa qn qc W4, (Builtin.append_ #[23, 23] 23 #[v, .slice (some ⟨w1.heap.size + 1, 0, none⟩) 1 1]).run Try.prog ((w1.alloc (.cells (tcs tk s tn ta) 29)).alloc (.cells (tcs tk s tn ta) 29)) = .ok (.slice qa qn qc) W4 ∧
      Calls Try.prog 16 #[.slice (some ⟨b0, off, none⟩) n c, .int .i64 (r.2.1 : Int)] W4 fun e w5 => e = .returned (.int .i64 (skA false zs r.2.1 : Int)) ∧ w5 = W4 ∧ Qo (.slice qa qn qc) W4)
theorem rtR_any {b0 off n c : Nat} {zs : List Int} {p B : Nat} {v : Value} {ts : List Tk} {w wr : World} (hB : Pl.isB zs) (hn : n ≤ 16777216) (hcn : n ≤ c) (hz : zs.length = n) (hp : p < n) (hb0 : b0 < B) (hBw : w.heap.size = B) (hc : ∀ j, j < n → w.cell? ⟨b0, off + j, none⟩ = some (.int .u8 (zs.getD j 0))) (hbel : Below B w wr) (hO : OwT B wr v ts) (hl : ts.length ≤ 16384) :
    RtR b0 off n c zs p (tokA zs p) v wr (fun W => Below B w W) (fun v' W => OwT B W v' (ts ++ [(tokA zs p).1]) ∧ Below B w W) := by
  have hcr : ∀ W, Below B w W → ∀ j, j < n → W.cell? ⟨b0, off + j, none⟩ = some (.int .u8 (zs.getD j 0)) := fun W hW j hj => (hW.cell (show b0 < _ from hb0)).trans (hc j hj)
  have hz0 := hbel.size
  refine (rtoken_any b0 off n c zs p wr hB hn hcn hz hp (by omega) (hcr wr hbel)).mono ?_
  rintro e w1 ⟨rfl, h1⟩
  have hz1 := h1.size
  have hb1 : Below B w w1 := hbel.trans (h1.mono (by omega))
  refine ⟨_, _, _, _, rfl, fun _ => ?_, fun h0 => ?_⟩
  · exact hb1.trans ((below1 _ _).mono (by omega))
  · rw [if_pos h0]
    obtain ⟨W2, hW2⟩ : ∃ W2, W2 = w1.alloc (.cells (cellsT (tokA zs p).1).toArray 29) := ⟨_, rfl⟩
    obtain ⟨W3, hW3⟩ : ∃ W3, W3 = W2.alloc (.cells (cellsT (tokA zs p).1).toArray 29) := ⟨_, rfl⟩
    have b2 : Below w1.heap.size w1 W2 := by rw [hW2]; exact below1 _ _
    have b3 : Below W2.heap.size W2 W3 := by rw [hW3]; exact below1 _ _
    have z2 : W2.heap.size = w1.heap.size + 1 := by rw [hW2]; simp
    have hg : W3.heap[w1.heap.size + 1]? = some (.cells (cellsT (tokA zs p).1).toArray 29 (0, 0)) := by rw [hW3, ← z2]; exact heap_new _ _
    have hO3 : OwT B W3 v ts := ((hO.next h1).next b2).next b3
    have hb3 : Below B w W3 := (hb1.trans (b2.mono (by omega))).trans (b3.mono (by omega))
    obtain ⟨v', W4, hr, hL, hgr⟩ := hO3.push 23 (tokA zs p).1 hg (by omega) (by have := hb3.size; omega)
    obtain ⟨qa, qc, rfl⟩ := hL.form
    have hb4 : Below B w W4 := hb3.trans (hgr.below (by have := hb3.size; omega) (fun g hg' => (own_blk hO3 hg').1))
    have hok := tokA_ok (by omega) h0
    refine ⟨qa, (ts ++ [(tokA zs p).1]).length, qc, W4, ?_, (rskip_any b0 off n c zs (tokA zs p).2.1 W4 hn hz (by omega) (hcr W4 hb4)).mono ?_⟩
    · have e1 : tcs (tokA zs p).1.k (strOfNums (tokA zs p).1.tx) (tokA zs p).1.n (tokA zs p).1.a = (cellsT (tokA zs p).1).toArray := rfl
      rw [e1, ← hW2, ← hW3]
      exact hr
    · rintro e w5 ⟨rfl, h5⟩
      exact ⟨rfl, h5, hL, hb4⟩

set_option maxRecDepth 100000 in
set_option maxHeartbeats 4000000 in
theorem rTokens_some (b0 off n c : Nat) (zs : List Int) (w : World) (hn : n ≤ 65536) (hn0 : 0 < n) (hcn : n ≤ c) (hR : Rd w.heap.size w (some ⟨b0, off, none⟩) n zs) :
    Calls Try.prog 9 #[.slice (some ⟨b0, off, none⟩) n c] w (TkQ zs w.heap.size w) := by
  have hz : zs.length = n := hR.1
  have hB : Pl.isB zs := hR.2.1
  obtain ⟨hb0, hc⟩ : b0 < w.heap.size ∧ ∀ j, j < n → w.cell? ⟨b0, off + j, none⟩ = some (.int .u8 (zs.getD j 0)) := by
    rcases hR.2.2 with h | ⟨b', off', e, h1, h2⟩
    · omega
    · simp at e
      obtain ⟨rfl, rfl⟩ := e
      exact ⟨h1, h2⟩
  have hlp : lexP zs = lexA zs 0 0 := by unfold lexP; rw [if_neg (by omega)]
  obtain ⟨PO, hPO⟩ : ∃ PO, PO = TkQ zs w.heap.size w := ⟨_, rfl⟩
  rw [← hPO]
  obtain ⟨B, hBw⟩ : ∃ B, w.heap.size = B := ⟨_, rfl⟩
  rw [hBw] at hPO hb0
  have H16 := hid (rskip_any b0 off n c zs 0 w (by omega) hz (by omega) hc)
  rw [show ((0 : Nat) : Int) = 0 from rfl] at H16
  have HRR := hid (fun p v ts wr hp hbel hO hl => rtR_any (p := p) (v := v) (ts := ts) (wr := wr) hB (by omega) hcn hz hp hb0 hBw hc hbel hO hl)
  have HErr : Hid (∀ pl ec W, lexA zs 0 0 = ([], pl, ec) → Below B w W → PO (.returned (.tuple #[.slice none 0 0, .int .i64 (pl : Int), .int .i64 ec])) W) := fun pl ec W h1 h2 => by
    rw [hPO]
    exact ⟨_, by rw [hlp, h1], by rw [hlp, h1]; exact OwT.nil _ _, h2⟩
  have HOk : Hid (∀ ts u W, lexA zs 0 0 = (ts, 0, 0) → OwT B W u ts → Below B w W → PO (.returned (.tuple #[u, .int .i64 0, .int .i64 0])) W) := fun ts u W h1 h3 h2 => by
    rw [hPO]
    exact ⟨_, by rw [hlp, h1]; rfl, by rw [hlp, h1]; exact h3, h2⟩
  have hn' : ¬ (65536 : Int) < (n : Int) := by omega
  clear hPO hR hc hB hlp
  go_enter Try.func9, Try.ntmps9
  go_wp2_with (go_at_call 16; refine Calls.mono H16.out ?_; rintro e w1 ⟨rfl, hw1⟩; rw [hw1]; clear hw1)
  clear H16
  go_loopw [5, 6] (fun vv kv wr => ∃ (k : Nat) (pre : List (Tk × Int)) (va : Option Addr) (vc : Nat), vv = .slice va pre.length vc ∧ kv = .int .i64 (skA false zs k : Int) ∧ Good zs k pre ∧ OwT B wr (.slice va pre.length vc) (pre.map Prod.fst) ∧ Below B w wr) (fun _ kv _ => n - (intOf kv).toNat)
  case atStart => exact ⟨0, [], none, 0, rfl, rfl, Good.zero zs, OwT.nil _ _, Below.refl _ _⟩
  case round =>
    obtain ⟨k, pre, va, vc, rfl, rfl, hG, hO, hb⟩ := hrel
    have hfew := hG.few
    by_cases q : skA false zs k < n
    · have q' : (skA false zs k : Int) < (n : Int) := by omega
      by_cases q2 : pre.length = 16384
      · have hi : itm zs k pre.length = (tk0 (skA false zs k), 184) := by unfold itm nxtA; rw [if_pos q2]
        have hst := hG.stop (by omega) (by rw [hi]; exact (by decide : (184 : Int) ≠ 0))
        rw [hi, show (nxtA zs (skA false zs k) pre.length).2.1 = skA false zs k by unfold nxtA; rw [if_pos q2]] at hst
        have HF := hid (HErr.out _ _ _ hst.1 hb)
        have q2' : (pre.length : Int) = 16384 := by omega
        clear hG hO hb hst hi HErr HOk HRR q2
        generalize skA false zs k = p at *
        go_wp2
        go_ret3
        exact HF.out
      · have q2' : ¬ (pre.length : Int) = 16384 := by omega
        have hnx : nxtA zs (skA false zs k) pre.length = tokA zs (skA false zs k) := by unfold nxtA; rw [if_neg q2]
        have hrr := HRR.out _ _ _ _ q hb hO (by rw [List.length_map]; omega)
        have hgn : (tokA zs (skA false zs k)).2.2 = 0 → Good zs (tokA zs (skA false zs k)).2.1 (pre ++ [itm zs k pre.length]) ∧ skA false zs k < (tokA zs (skA false zs k)).2.1 ∧ (pre ++ [itm zs k pre.length]).map Prod.fst = pre.map Prod.fst ++ [(tokA zs (skA false zs k)).1] := fun h0 => by
          rw [← hnx] at h0
          have h1 := hG.next (by omega) h0
          refine ⟨by rw [← hnx]; exact h1, by rw [← hnx]; exact (nxtA_ok (by omega) h0).1, ?_⟩
          rw [List.map_append]
          unfold itm
          rw [hnx]
          rfl
        have hst : (tokA zs (skA false zs k)).2.2 ≠ 0 → lexA zs 0 0 = ([], (tokA zs (skA false zs k)).2.1, (tokA zs (skA false zs k)).2.2) := fun h0 => by
          have h1 := (hG.stop (by omega) (show (itm zs k pre.length).2 ≠ 0 by unfold itm; rw [hnx]; exact h0)).1
          rw [hnx] at h1
          rw [h1]
          unfold itm
          rw [hnx]
        unfold RtR at hrr
        have HR := hid hrr
        have HGN := hid hgn
        have HST := hid hst
        clear hG hO hb hrr hgn hst hnx HRR
        obtain ⟨p, hp⟩ : ∃ p, p = skA false zs k := ⟨_, rfl⟩
        rw [← hp] at HR HGN HST q q' ⊢
        generalize itm zs k pre.length = it at *
        obtain ⟨⟨rt, to, ec⟩, hr⟩ : ∃ r, r = tokA zs p := ⟨_, rfl⟩
        rw [← hr] at HR HGN HST
        simp only at HR HGN HST
        clear hr hp
        by_cases h0 : ec = 0
        · subst h0
          have HG1 := hid (HGN.out rfl)
          clear HGN HST HErr HOk
          go_wp2_with fail
          refine Calls.mono HR.out ?_
          rintro e w1 ⟨tk, s, tn, ta, rfl, _, hok⟩
          obtain ⟨qa, qn, qc, W4, hrun, h16⟩ := hok trivial
          have H16 := hid h16
          clear hok h16 HR
          go_wp2_with (at_builtin; refine Lib.wpList_append_run _ rfl _ _ _ _ rfl _ _ rfl rfl _ _ hrun ?_)
          refine Calls.mono H16.out ?_
          rintro e w5 ⟨rfl, hw5, h6, h7⟩
          rw [hw5]
          have H6 := hid h6
          have H7 := hid h7
          clear hw5 h6 h7 hrun H16
          go_wp2
          go_roundw
          case rel =>
            obtain ⟨g1, g2, g3⟩ := HG1.out
            obtain ⟨xa, xc, xe⟩ := H6.out.form
            simp only [Value.slice.injEq] at xe
            have hl9 : qn = (pre ++ [it]).length := by rw [xe.2.1, ← g3, List.length_map]
            refine ⟨to, pre ++ [it], qa, qc, by rw [← hl9], rfl, g1, ?_, H7.out⟩
            rw [← hl9, g3]
            exact H6.out
          case measure =>
            have h1 := HG1.out.2.1
            have h2 := skA_ge false zs to
            simp [intOf]
            omega
        · have HF := hid (fun W h => HErr.out _ _ W (HST.out h0) h)
          clear HGN HST HErr HOk
          go_wp2_with fail
          refine Calls.mono HR.out ?_
          rintro e w1 ⟨tk, s, tn, ta, rfl, hbad, _⟩
          have HB := hid (HF.out _ (hbad h0))
          clear hbad HR HF
          go_wp2
          go_ret3
          exact HB.out
    · have q' : ¬ (skA false zs k : Int) < (n : Int) := by omega
      have HF := hid (HOk.out _ _ _ (hG.done (by omega)) hO hb)
      clear hG hO hb HErr HOk HRR
      generalize skA false zs k = p at *
      go_wp2
      go_ret3
      exact HF.out
theorem rTokens_all (a : Option Addr) (n c : Nat) (zs : List Int) (w : World) (hcn : n ≤ c) (hR : Rd w.heap.size w a n zs) : Calls Try.prog 9 #[.slice a n c] w (TkQ zs w.heap.size w) := by
  by_cases q : n ≤ 65536
  · by_cases q0 : n = 0
    · subst q0
      have hz : zs = [] := List.length_eq_zero_iff.1 hR.1
      subst hz
      exact rTokens_nil a c w
    · rcases hR.2.2 with h | ⟨b, off, rfl, _, _⟩
      · omega
      · exact rTokens_some b off n c zs w q (by omega) hcn hR
  · exact rTokens_long a n c zs w (by omega) hR.1

end Go.Proofs.Ytoifmiloaefanaa
