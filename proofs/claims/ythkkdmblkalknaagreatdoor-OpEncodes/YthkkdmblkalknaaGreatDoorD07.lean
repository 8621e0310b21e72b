import Derived.Test.YthkkdmblkalknaaGreatDoorD02
import Derived.Test.YthkkdmblkalknaaGreatDoorC01
import Derived.Test.YthkkdmblkalknaaGreatDoorD06
/-
  encodes: one Encode as the document says; the law of OpEncodes.
-/
namespace Go.Proofs.YthkkdmblkalknaaGreatDoor
open Go.RowKit Go.Proofs.YthkkdmblkalknaaGreatDoor.bk

theorem bok_cut {B : Nat} {X : Nat → Prop} {w : World} {b cnt tot nK : Nat} (h : Bok B X w b cnt tot nK) : Bok B (fun x => X x ∧ x < w.heap.size) w b cnt tot nK := by
  obtain ⟨R, fr, he, ma, ke, wa, n, fv, hv, ms, kv, wv, K, Z, h⟩ := h
  refine ⟨R, fr, he, ma, ke, wa, n, fv, hv, ms, kv, wv, K, Z, ⟨h.hn, h.hml, h.hms, h.hZ, h.bk, h.fs, h.hd, fun x hx => ⟨h.xx x hx, ?_⟩⟩⟩
  rcases hx with q | q | q | q | q | q | q | ⟨j, hj, hg⟩
  · exact h.bk.there (.inl q)
  · exact h.bk.there (.inr (.inl q))
  · exact h.bk.there (.inr (.inr (.inl q)))
  · exact h.bk.there (.inr (.inr (.inr (.inl q))))
  · exact h.bk.there (.inr (.inr (.inr (.inr (.inl q)))))
  · exact h.bk.there (.inr (.inr (.inr (.inr (.inr (.inl q))))))
  · exact h.bk.there (.inr (.inr (.inr (.inr (.inr (.inr q))))))
  · exact (h.fs.own hj hg).1.lt
/-- a tray and a book, made behind w -/
structure EnI (w : World) (T b : Nat) (W : World) (cnt tot nK : Nat) (κ : Nat → Nat) (lv dv : Value) (ls : List (Nat × Value)) (X : Nat → Prop) : Prop where
  ts : TS W T κ lv dv ls
  k0 : ∀ y, y < w.heap.size → κ y = 0
  bel : Below w.heap.size w W
  bok : Bok w.heap.size X W b cnt tot nK
  dj : ∀ x, X x → κ x = 0 ∧ w.heap.size ≤ x ∧ x < W.heap.size
def EnS (w : World) (T b : Nat) (W : World) (cnt tot nK : Nat) : Prop := ∃ κ lv dv ls X, EnI w T b W cnt tot nK κ lv dv ls X
def EnR (w : World) (T b : Nat) (W : World) (cnt tot nK : Nat) (x : Option Addr) (os : List PO) : Prop := ∃ κ lv dv ls X, EnI w T b W cnt tot nK κ lv dv ls X ∧ RdON (fun x => κ x ≠ 0) W x os
theorem EnS.bel {w W : World} {T b cnt tot nK : Nat} (h : EnS w T b W cnt tot nK) : Below w.heap.size w W := by obtain ⟨_, _, _, _, _, h⟩ := h; exact h.bel
theorem EnI.next {w W W' : World} {T b cnt tot nK : Nat} {κ : Nat → Nat} {lv dv : Value} {ls : List (Nat × Value)} {X : Nat → Prop} (h : EnI w T b W cnt tot nK κ lv dv ls X) (hb : Below W.heap.size W W') : EnI w T b W' cnt tot nK κ lv dv ls X :=
  ⟨h.ts.keep (But.of_below (X := fun _ => False) hb) (fun _ _ h => h), h.k0, h.bel.trans (hb.mono h.bel.size), h.bok.but (Y := fun _ => False) (But.of_below hb) (fun _ _ _ h => h), fun x hx => ⟨(h.dj x hx).1, (h.dj x hx).2.1, Nat.lt_of_lt_of_le (h.dj x hx).2.2 hb.size⟩⟩
theorem EnS.args {w W : World} {T b cnt tot nK : Nat} {x : Option Addr} {os : List PO} (h : EnS w T b W cnt tot nK) (hR : RdO w.heap.size w x os) : EnR w T b W cnt tot nK x os := by
  obtain ⟨κ, lv, dv, ls, X, h⟩ := h
  exact ⟨κ, lv, dv, ls, X, h, RdON.of_rd (hR.below h.bel) h.bel.size (fun k hk => by simp [h.k0 k hk])⟩
theorem EnS.turned {w W : World} {T b cnt tot nK : Nat} {x : Option Addr} {c : Nat} {os : List PO} (h : EnS w T b W cnt tot nK) (hl : os.length ≤ 16777216) (hR : RdO w.heap.size w x os) :
    Calls Tryz.prog 22 #[.slice x os.length c] W fun e w4 => ∃ a cp os', e = .returned (.slice a os'.length cp) ∧ Twins os os' ∧ (a = none → cp = 0) ∧ EnR w T b w4 cnt tot nK a os' := by
  obtain ⟨κ, lv, dv, ls, X, h⟩ := h
  refine (Turned_any x c os W hl ((hR.below h.bel).mono h.bel.size)).mono ?_
  rintro e w4 ⟨u, vs, os', rfl, hO, hT, hb⟩
  obtain ⟨a, cp, rfl, _, hRN, hn⟩ := hO.rdn (X := fun x => κ x ≠ 0) (hT.ok hR.1) (hT.isb hR.isb) (fun k hk _ => by simp [h.ts.cut k hk])
  exact ⟨a, cp, os', rfl, hT, hn, κ, lv, dv, ls, X, h.next hb, hRN⟩
theorem enc_bd {os : List PO} (hb : blk os ≤ 16777216) (r : Nat) (h : ∀ o ∈ os.take r, o.ck = 0) : (encL (os.take r)).length ≤ 536870912 := by
  have := encL_blk (os.take r) h
  have := blk_take os r
  omega
/-- what Encode answers -/
def encA (os : List PO) : List Int := if ckA os = 0 then encL os else []
theorem encA_len {os : List PO} : (encA os).length ≤ 2 * blk os := by
  unfold encA
  split
  · rename_i h
    exact encL_blk os (ckA_zero h)
  · simp
theorem encA_isB {os : List PO} (hd : ∀ o ∈ os, Pl.isB o.da) : Pl.isB (encA os) := by
  unfold encA
  split
  · rename_i h
    exact encLr_isB (ckA_zero h) hd
  · exact Pl.isB_nil
/-- the calls of encodes -/
def EnC (T b : Nat) (x : Option Addr) (c : Nat) (os : List PO) (W : World) (Q : World → Prop) : Prop :=
  Calls Tryz.prog 47 #[.pointer (some ⟨T, 0, none⟩), .slice x os.length c] W fun e w1 => ∃ G M, e = .returned (.slice (some ⟨G, 0, none⟩) os.length M) ∧
    Calls Tryz.prog 12 #[.slice (some ⟨G, 0, none⟩) os.length M] w1 fun e w2 => ∃ oa on oc, e = .returned (.tuple #[.slice oa on oc, .int .i64 (ckA os)]) ∧
    Calls Tryz.prog 52 #[.slice x os.length c] w2 fun e w3 => ∃ wa wn wc, e = .returned (.tuple #[.slice wa wn wc, .int .i64 (ckA os)]) ∧
    Calls Tryz.prog 20 #[.slice oa on oc, .slice wa wn wc] w3 fun e w4 => e = .returned (.bool true) ∧
    Calls Tryz.prog 50 #[.pointer (some ⟨T, 0, none⟩), .slice x os.length c] w4 fun e w5 => e = .returned (.bool true) ∧
    Calls Tryz.prog 53 #[.pointer (some ⟨b, 0, none⟩), .slice oa on oc, .int .i64 (os.length : Int)] w5 fun e w6 => e = .returned (.tuple #[]) ∧
    Calls Tryz.prog 54 #[.pointer (some ⟨b, 0, none⟩)] w6 fun e w7 => e = .returned (.bool true) ∧ Q w7
theorem enC_any {w W : World} {T b cnt tot nK : Nat} {x : Option Addr} {c : Nat} {os : List PO} (h : EnR w T b W cnt tot nK x os) (hG : GT w) (hl : os.length ≤ 16777216) (hbk : blk os ≤ 16777216) (hx : x = none → c = 0) (hnK : nK ≤ 67108864) (hc : cnt ≤ 8388608) (ht : tot + 2 * blk os ≤ 1073741754) :
    EnC T b x c os W fun w7 => ∃ m nK', m ≤ 2 * blk os ∧ nK' ≤ nK + 15 ∧ EnS w T b w7 (cnt + 1) (tot + m) nK' := by
  obtain ⟨κ, lv, dv, ls, X, h, hR⟩ := h
  refine (TLend_any T κ lv dv ls x c os W hl h.ts hR hx).mono ?_
  rintro e w1 ⟨G, M, κ', dv', ls', vs, rfl, hT, hE, hB⟩
  have hR1 := hR.ext hB hE
  have hGW := hG.next h.bel
  have hG1 : GT w1 := hGW.butk hB (fun k hk' => by have := hG.lt; simp [h.k0 k (by omega)])
  have hRL : RdO w1.heap.size w1 (some ⟨G, 0, none⟩) os := hT.rd hR1.1 hR1.isb
  refine ⟨G, M, rfl, (Encode_all (some ⟨G, 0, none⟩) M os w1 hl (fun h => by have := enc_bd hbk os.length (by rw [List.take_length]; exact ckA_zero h); rwa [List.take_length] at this) hG1 hRL).mono ?_⟩
  rintro e w2 ⟨v, rfl, ho, b2⟩
  change Ow w1.heap.size w2 v (encA os) at ho
  have hiB := encA_isB hR.isb
  obtain ⟨oa, oc, rfl, _, hRo, hno⟩ := ho.rd hiB
  refine ⟨oa, _, oc, rfl, (rEncode_any x c os w2 hl (fun r _ h => enc_bd hbk r h) ((hR1.rd.below b2).mono b2.size) hR.isb).mono ?_⟩
  rintro e w3 ⟨v2, rfl, ho2, b3⟩
  change Ow w2.heap.size w3 v2 (encA os) at ho2
  obtain ⟨wa, wc, rfl, _, hRw, _⟩ := ho2.rd hiB
  have b13 := b2.trans (b3.mono b2.size)
  have hTL3 := hT.below b13
  have hR3 : RdON (fun x => κ' x ≠ 0) w3 x os := hR1.but (But.of_below b13)
  refine ⟨wa, _, wc, rfl, (SameBytes_same oa wa _ oc wc (encA os) w3 (hRo.below b3) hRw).mono ?_⟩
  rintro e w4 ⟨rfl, rfl⟩
  refine ⟨rfl, (TBack_any T κ' G M dv' ls' x c os vs w4 hl hTL3 hR3).mono ?_⟩
  rintro e w5 ⟨rfl, hts, hb5⟩
  -- what the tray has
  have kz : ∀ y, w1.heap.size ≤ y → κ' y = 0 := hT.ts.cut
  have s1 := hB.size
  have s13 := b13.size
  have kX : ∀ y, X y → κ' y = 0 := fun y hy => by rw [hE y (h.dj y hy).2.2]; exact (h.dj y hy).1
  have bok5 : Bok w.heap.size X w5 b cnt tot nK := ((h.bok.but hB (fun y _ hX hk => hk (h.dj y hX).1)).but (Y := fun _ => False) (But.of_below b13) (fun _ _ _ h => h)).but hb5 (fun y _ hX hk => hk (kX y hX))
  have ho5 : Ow w1.heap.size w5 (.slice oa (encA os).length oc) (encA os) := (ho.next b3).keep fun g hg => hb5.block g ((ho.next b3).lt g hg) (fun hk => hk (kz g (ho.base g hg)))
  have hlen : (encA os).length ≤ 2 * blk os := encA_len
  have bel5 : Below w.heap.size w w5 := ((h.bel.trans (hB.below h.bel.size (fun k hk => by simp [h.k0 k hk]))).trans (b13.mono (Nat.le_trans h.bel.size s1))).trans (hb5.below (Nat.le_trans (Nat.le_trans h.bel.size s1) s13) (fun k hk => by rw [hE k (Nat.lt_of_lt_of_le hk h.bel.size)]; simp [h.k0 k hk]))
  have hown : (oa = none ∧ encA os = [] ∧ oc = 0) ∨ ∃ g, oa = some ⟨g, 0, none⟩ ∧ Own w5 g (encA os).length oc (encA os) ∧ ¬ X g ∧ w.heap.size ≤ g := by
    rcases ho5.2 with ⟨e, q⟩ | ⟨g, cap, cur, e, hb, _⟩
    · simp only [Value.slice.injEq] at e
      exact .inl ⟨e.1, List.eq_nil_of_length_eq_zero q, e.2.2⟩
    · simp only [Value.slice.injEq] at e
      obtain ⟨rfl, _, rfl⟩ := e
      exact .inr ⟨g, rfl, Own.of ho5, fun hX => by have := (h.dj g hX).2.2; omega, Nat.le_trans h.bel.size (Nat.le_trans s1 hb)⟩
  refine ⟨rfl, (Own_any w.heap.size X w5 b cnt tot nK oa oc (encA os) (os.length : Int) bel5.size hnK hc (by omega) (by omega) (by omega) (by omega) bok5 hiB hown).mono ?_⟩
  rintro e w6 ⟨rfl, nK', hn', bok6, hb6⟩
  have s5 := hb5.size
  have ownK : ∀ y, (Value.slice oa (encA os).length oc).ownBlock = some y → κ' y = 0 ∧ w1.heap.size ≤ y := fun y hy => ⟨kz y (ho.base y hy), ho.base y hy⟩
  have ts6 := hts.keep hb6 (fun y hy hX => hy (hX.elim (kX y) (fun e => (ownK y e).1)))
  refine ⟨rfl, (Holds_any w.heap.size _ w6 b (cnt + 1) (tot + (encA os).length) nK' (by omega) bok6).mono ?_⟩
  rintro e w7 ⟨rfl, bok7, hb7⟩
  have kall : ∀ y, (X y ∨ (Value.slice oa (encA os).length oc).ownBlock = some y ∨ w5.heap.size ≤ y) → κ' y = 0 ∧ w.heap.size ≤ y := by
    intro y hy
    rcases hy with hy | hy | hy
    · exact ⟨kX y hy, (h.dj y hy).2.1⟩
    · exact ⟨(ownK y hy).1, Nat.le_trans h.bel.size (Nat.le_trans s1 (ownK y hy).2)⟩
    · exact ⟨kz y (by omega), Nat.le_trans h.bel.size (by omega)⟩
  refine ⟨rfl, (encA os).length, nK', hlen, hn', κ', _, dv', ls', _, ⟨ts6.keep hb7 (fun y hy hX => hy (kall y hX).1), fun y hy => by rw [hE y (Nat.lt_of_lt_of_le hy h.bel.size)]; exact h.k0 y hy, ?_, bok_cut bok7, fun y hy => ⟨(kall y hy.1).1, (kall y hy.1).2, hy.2⟩⟩⟩
  have bel6 := bel5.trans (hb6.below bel5.size (fun k hk hX => by
    have := (kall k (hX.elim .inl (fun e => .inr (.inl e)))).2
    omega))
  exact bel6.trans (hb7.below bel6.size (fun k hk hX => by
    have := (kall k hX).2
    omega))

set_option maxRecDepth 100000 in
set_option maxHeartbeats 4000000 in
theorem encodes_walk {T b : Nat} {x : Option Addr} {c : Nat} {os : List PO} {W : World} {Q : World → Prop} (h : EnC T b x c os W Q) :
    Calls Tryz.prog 24 #[.slice x os.length c, .pointer (some ⟨T, 0, none⟩), .pointer (some ⟨b, 0, none⟩)] W fun e w' => e = .returned (.bool true) ∧ Q w' := by
  have HC := hid h
  unfold EnC at HC
  have HN := hid num_any
  clear h
  generalize ckA os = E at *
  go_enter Tryz.func24, Tryz.ntmps24
  go_wp2_with fail
  refine HC.out.mono ?_
  rintro e w1 ⟨G, M, rfl, h1⟩
  have H1 := hid h1
  clear h1 HC
  go_wp2_with fail
  refine H1.out.mono ?_
  rintro e w2 ⟨oa, on, oc, rfl, h2⟩
  have H2 := hid h2
  clear h2 H1
  go_wp2_with fail
  refine H2.out.mono ?_
  rintro e w3 ⟨wa, wn, wc, rfl, h3⟩
  have H3 := hid h3
  clear h3 H2
  go_wp2_with fail
  refine (HN.out _ _).mono ?_
  rintro e w0 ⟨rfl, hw0⟩
  rw [hw0]
  clear hw0
  go_wp2_with fail
  refine H3.out.mono ?_
  rintro e w4 ⟨rfl, h4⟩
  have H4 := hid h4
  clear h4 H3
  go_wp2_with fail
  refine H4.out.mono ?_
  rintro e w5 ⟨rfl, h5⟩
  have H5 := hid h5
  clear h5 H4
  go_wp2_with fail
  refine H5.out.mono ?_
  rintro e w6 ⟨rfl, h6⟩
  have H6 := hid h6
  clear h6 H5
  go_wp2_with fail
  refine H6.out.mono ?_
  rintro e w7 ⟨rfl, h7⟩
  have H7 := hid h7
  clear h7 H6
  go_wp2
  go_ret
  exact ⟨rfl, H7.out⟩

end Go.Proofs.YthkkdmblkalknaaGreatDoor
