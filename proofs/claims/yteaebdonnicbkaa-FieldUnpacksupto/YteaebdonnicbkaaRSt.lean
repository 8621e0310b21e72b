/-
  The document's Stamp (function 53).
-/
import Derived.Test.YteaebdonnicbkaaRBt
import Derived.Test.YteaebdonnicbkaaRSum
import Derived.Test.YteaebdonnicbkaaStd0
namespace Go.Proofs.Yteaebdonnicbkaa
open Go.RowKit

def lenOf : Value → Nat
  | .slice _ n _ => n
  | _ => 0

/-- AN APPEND to bytes of one's own of whatever bytes -/
theorem wpL_any {ops : Array Oper} {rest : List Oper} {o : Oper} {a : Act} {Q : Exit → Act → World → Prop} {w : World} (hgd : o.guard = none) (s x : Operand)
    (ho : o.op = .call { callee := .builtin .append, args := #[s, x], argTypes := #[22, 22] }) (B : Nat) (v : Value) (n : Nat) (zs : List Int) (hs : a.eval s = v) (hown : OwB B w v n zs)
    (ad : Option Addr) (m c : Nat) (cs : List Int) (hx : a.eval x = .slice ad m c) (hnil : ad = none → c = 0) (hR : Rd w.heap.size w ad m cs)
    (h63 : n + m ≤ 140737488355328) (hbase : B ≤ w.heap.size)
    (h : ∀ v' w', OwB B w' v' (n + m) (zs ++ cs) → Below B w w' → wpList Try.prog ops Q rest (a.put o.dst v') w') :
    wpList Try.prog ops Q (o :: rest) a w := by
  obtain ⟨i5, hi5, hz5, hs5, hb5⟩ := info_parts info5
  have hl := hR.1
  cases ad with
  | none =>
    have hm0 : m = 0 := by rcases hR.2.2 with h3 | ⟨_, _, h3, _⟩; exact h3; cases h3
    subst hm0
    obtain rfl : cs = [] := List.length_eq_zero_iff.1 hl
    obtain rfl : c = 0 := hnil rfl
    refine wpList_append_own_none hgd s x 22 ho B 5 i5 1 Try.underlying22 hi5 v n (zs.map (Value.int .u8)) hs hown hx ?_
    exact h v w (by rw [List.append_nil]; exact hown) (Below.refl _ _)
  | some ad =>
    have hsrc : ∀ j u, (cs.map (Value.int .u8))[j]? = some u → w.cell? (ad.add j) = some u := by
      by_cases h0 : m = 0
      · intro j u h
        rw [h0] at hl
        obtain rfl : cs = [] := List.length_eq_zero_iff.1 hl
        simp at h
      · obtain ⟨ad', e, h⟩ := hR.src (by omega)
        cases e
        exact h
    refine wpList_append_own _ hgd s x 22 ho B 5 i5 (.int .u8 0) 1 1 Try.underlying22 hi5 hz5 hs5 hb5 rfl (by decide) v n (zs.map (Value.int .u8)) hs hown ad m c (cs.map (Value.int .u8)) hx (by rw [List.length_map, hl, Nat.mul_one]) hsrc (u8_one _) (by unfold maxLen; omega) (by omega) hbase ?_
    intro v' w' ho' hg _
    rw [← List.map_append] at ho'
    exact h v' w' ho' ((Below.refl _ _).grown hg hbase (fun k hk => (World.ownsRow.lt hown k hk).1))

theorem dig_one {k : Int} (h1 : 1 ≤ k) (h2 : k ≤ 255) : Pl.dig k 1 = [k] := by
  simp only [Pl.dig]
  rw [show k % 256 = k by omega]

set_option maxRecDepth 100000 in
set_option maxHeartbeats 2000000 in
theorem refStamp_ok (kind seq : Int) (a : Option Addr) (n c : Nat) (body : List Int) (w : World) (k1 : 1 ≤ kind) (k2 : kind ≤ 255) (s1 : 0 ≤ seq) (s2 : seq ≤ 1099511627776) (hn : n ≤ 497) (hnil : a = none → c = 0) (hR : Rd w.heap.size w a n body) :
    Calls Try.prog 53 #[.int .i64 kind, .int .i64 seq, .slice a n c] w fun e w' => ∃ g cap, e = .returned (.tuple #[.slice (some ⟨g, 0, none⟩) 512 cap, .int .i64 0]) ∧ w.heap.size ≤ g ∧ Own w' g 512 cap (stampZ kind seq body) ∧ Below w.heap.size w w' := by
  have hlb := hR.1
  go_enter Try.func53, Try.ntmps53
  go_wp2_with fail
  refine (refBytes_any kind 1 w (by omega) (by omega) (by decide)).mono ?_
  rintro e w1 ⟨o1, rfl, ho1, hb1⟩
  rw [dig_one k1 k2] at ho1
  obtain ⟨g1, c1, rfl, _, _⟩ := ho1.form (by decide)
  have P1 := hid ho1
  have B1 := hid hb1
  clear ho1 hb1
  go_wp2_with fail
  refine (refBytes_any n 2 w1 (by omega) (by omega) (by decide)).mono ?_
  rintro e w2 ⟨o2, rfl, ho2, hb2⟩
  obtain ⟨g2, c2, rfl, _, hO2⟩ := ho2.form (by decide)
  have P2 := hid (P1.out.below hb2)
  have N2 := hid hO2.src
  have B2 := hid (B1.out.trans (hb2.mono B1.out.size))
  clear ho2 hb2 hO2 P1 B1
  go_wp2_with (at_builtin; refine wpL_app (by rfl) _ _ (by rfl) w.heap.size _ 1 [kind] (by rfl) (by exact P2.out) ⟨g2, 0, none⟩ 2 c2 (Pl.dig n 2) (by rfl) (by exact Pl.length_dig _ _) (by exact N2.out) (by decide) (by decide) (by exact B2.out.size) ?_)
  intro g3 c3 w3 ho3 hb3 _ _
  have P3 := hid ho3
  have B3 := hid (B2.out.trans hb3)
  clear ho3 hb3 P2 B2 N2
  go_wp2_with fail
  refine (refBytes_any seq 8 w3 (by omega) (by omega) (by decide)).mono ?_
  rintro e w4 ⟨o4, rfl, ho4, hb4⟩
  obtain ⟨g4, c4, rfl, _, hO4⟩ := ho4.form (by decide)
  have P4 := hid (P3.out.below hb4)
  have N4 := hid hO4.src
  have B4 := hid (B3.out.trans (hb4.mono B3.out.size))
  clear ho4 hb4 hO4 P3 B3
  go_wp2_with (at_builtin; refine wpL_app (by rfl) _ _ (by rfl) w.heap.size _ 3 ([kind] ++ Pl.dig n 2) (by rfl) (by exact P4.out) ⟨g4, 0, none⟩ 8 c4 (Pl.dig seq 8) (by rfl) (by exact Pl.length_dig _ _) (by exact N4.out) (by decide) (by decide) (by exact B4.out.size) ?_)
  intro g5 c5 w5 ho5 hb5 _ _
  have P5 := hid (ho5.alloc (.cells (([0, 0, 0, 0] : List Int).map (Value.int .u8)).toArray 5))
  have B5 := hid (B4.out.trans hb5)
  have B5a := hid (B5.out.alloc B5.out.size (.cells (([0, 0, 0, 0] : List Int).map (Value.int .u8)).toArray 5))
  clear ho5 hb5 P4 B4 N4
  go_wp2_with (at_builtin; refine wpL_app (by rfl) _ _ (by rfl) w.heap.size _ 11 (([kind] ++ Pl.dig n 2) ++ Pl.dig seq 8) (by rfl) (by exact P5.out) ⟨w5.heap.size, 0, none⟩ 4 4 [0, 0, 0, 0] (by rfl) (by rfl) (by exact newsB w5 [0, 0, 0, 0]) (by decide) (by decide) (by exact B5a.out.size) ?_)
  intro g6 c6 w6 ho6 hb6 _ _
  obtain ⟨pre, hpre⟩ : ∃ pre, pre = kind :: (Pl.dig n 2 ++ (Pl.dig seq 8 ++ [0, 0, 0, 0])) := ⟨_, rfl⟩
  have P6 : Hid (OwB w.heap.size w6 (.slice (some ⟨g6, 0, none⟩) 15 c6) 15 pre) := by
    have e : pre = (([kind] ++ Pl.dig n 2) ++ Pl.dig seq 8) ++ [0, 0, 0, 0] := by rw [hpre]; simp
    show OwB _ _ _ _ _
    rw [e]
    exact ho6
  have Hpre := hid hpre
  have B6 := hid (B5a.out.trans hb6)
  clear ho6 hb6 P5 B5 B5a hpre
  have hR6 := hid ((hR.below B6.out).mono B6.out.size)
  go_wp2_with (at_builtin; refine wpL_any (by rfl) _ _ (by rfl) w.heap.size _ 15 pre (by rfl) (by exact P6.out) a n c body (by rfl) hnil (by exact hR6.out) (by omega) (by exact B6.out.size) ?_)
  intro o7 w7 ho7 hb7
  obtain ⟨g7, c7, rfl, _, _⟩ := ho7.form (by omega)
  have P7 := hid ho7
  have B7 := hid (B6.out.trans hb7)
  clear ho7 hb7 P6 B6 hR6
  go_wp2_with fail
  go_loopw [8] (fun o wt => ∃ k : Nat, k ≤ 497 - n ∧ OwB w.heap.size wt o (15 + n + k) ((pre ++ body) ++ zeros k) ∧ Below w.heap.size w wt) (fun o _ => 512 - lenOf o)
  case atStart => exact ⟨0, Nat.zero_le _, by rw [show zeros 0 = [] from rfl, List.append_nil]; exact P7.out, B7.out⟩
  case round =>
    obtain ⟨k, hk, ho, hb⟩ := hrel
    clear P7 B7
    obtain ⟨g8, c8, rfl, _, _⟩ := ho.form (by omega)
    by_cases hk5 : k < 497 - n
    · have P8 := hid (ho.alloc (.cells (([0] : List Int).map (Value.int .u8)).toArray 5))
      have B8 := hid (hb.alloc hb.size (.cells (([0] : List Int).map (Value.int .u8)).toArray 5))
      have hlt : ((15 + n + k : Nat) : Int) < 512 := by omega
      clear ho hb
      go_wp2_with (at_builtin; refine wpL_app (by rfl) _ _ (by rfl) w.heap.size _ (15 + n + k) ((pre ++ body) ++ zeros k) (by rfl) (by exact P8.out) ⟨wr.heap.size, 0, none⟩ 1 1 [0] (by rfl) (by rfl) (by exact newsB wr [0]) (by decide) (by omega) (by exact B8.out.size) ?_)
      intro g9 c9 w9 ho9 hb9 _ _
      have P9 := hid ho9
      have B9 := hid (B8.out.trans hb9)
      clear ho9 hb9 P8 B8
      go_wp2
      go_roundw
      case rel => exact ⟨k + 1, by omega, by rw [show (pre ++ body) ++ zeros (k + 1) = pre ++ (body ++ (zeros k ++ [0])) from by rw [zeros_add]; simp [zeros]]; exact P9.out, B9.out⟩
      case measure => simp [lenOf]; omega
    · obtain rfl : k = 497 - n := by omega
      have hbare : (pre ++ body) ++ zeros (497 - n) = bareZ kind seq body := by rw [Hpre.out]; unfold bareZ; rw [hlb]; simp
      rw [hbare, show 15 + n + (497 - n) = 512 by omega] at ho
      rw [show 15 + n + (497 - n) = 512 by omega]
      obtain ⟨g9, c9, e9, hg9, hO9⟩ := ho.form (by decide)
      cases e9
      have hBb := isB_bare kind seq body k1 k2 hR.2.1
      have R9 := hid (hO9.rd hBb)
      have O9 := hid hO9
      have B9 := hid hb
      have hcr := crc_bd hBb
      clear ho hb hO9 hbare hBb hk hk5
      generalize hC : crc (bareZ kind seq body) = C at *
      have HC := hid hC
      have ew : IntKind.i64.wrap C = C := by rw [IntKind.wrap_i64]; omega
      go_wp2_with fail
      refine (refSum_any wr.heap.size (some ⟨g8, 0, none⟩) 512 c8 (bareZ kind seq body) wr (by decide) R9.out).mono ?_
      rintro e w10 ⟨rfl, rfl⟩
      rw [hC]
      clear hC
      go_wp2_with fail
      refine (refBytes_any C 4 w10 (by omega) (by omega) (by decide)).mono ?_
      rintro e w11 ⟨o11, rfl, ho11, hb11⟩
      obtain ⟨g11, c11, rfl, hg11, hO11⟩ := ho11.form (by decide)
      have O11 := hid hO11
      have O8 := hid (O9.out.below hb11)
      have B11 := hid (B9.out.trans (hb11.mono B9.out.size))
      have hgg : g8 < g11 := Nat.lt_of_lt_of_le O9.out.lt hg11
      clear ho11 hb11 hO11 O9 B9 R9
      go_wp2_with fail
      go_loopw [10] (fun i wt => ∃ (k : Nat) (cur : List Int), k ≤ 4 ∧ i = .int .i64 (k : Int) ∧ splice cur (11 + k) ((Pl.dig C 4).drop k) = stampZ kind seq body ∧ Own wt g8 512 c8 cur ∧ Own wt g11 4 c11 (Pl.dig C 4) ∧ Below w.heap.size w wt) (fun i _ => 4 - (intOf i).toNat)
      case atStart => exact ⟨0, _, by decide, rfl, by rw [List.drop_zero, ← HC.out]; rfl, O8.out, O11.out, B11.out⟩
      case round =>
        clear O8 O11 B11
        obtain ⟨k, cur, hk, rfl, hsp, hOc, hOs, hb⟩ := hrel
        by_cases hk4 : k < 4
        · have q1 := hOs.cell k hk4
          have q2 := hOc.cell (11 + k) (by omega)
          have f2 := World.ownsRow.frozenAt hOc (11 + k)
          have e11 : IntKind.i64.wrap (11 + (k : Int)) = ((11 + k : Nat) : Int) := by rw [IntKind.wrap_i64]; omega
          have hk1 : (k : Int) < 4 := by omega
          have hlen := hOc.len
          have O2 := hid (hOc.set (11 + k) ((Pl.dig C 4).getD k 0))
          have O3 : Hid (Own (wr.setCell ⟨g8, 11 + k, none⟩ (.int .u8 ((Pl.dig C 4).getD k 0))) g11 4 c11 (Pl.dig C 4)) := by
            show Own _ _ _ _ _
            exact World.ownsRow.kept hOs (World.ownsRow.stored hOc (11 + k) (.int .u8 ((Pl.dig C 4).getD k 0))).2 (.inr (by simp [Value.ownBlock]; omega))
          have B3 := hid (hb.setCell (show w.heap.size ≤ (⟨g8, 11 + k, none⟩ : Addr).block from hg9) (.int .u8 ((Pl.dig C 4).getD k 0)))
          have hsp' : Hid (splice (cur.set (11 + k) ((Pl.dig C 4).getD k 0)) (11 + (k + 1)) ((Pl.dig C 4).drop (k + 1)) = stampZ kind seq body) := by
            show _ = _
            rw [← hsp, ← Nat.add_assoc, ← splice_cons _ _ _ _ (by omega)]
            congr 1
            have hkl : k < (Pl.dig C 4).length := by rw [Pl.length_dig]; exact hk4
            rw [List.drop_eq_getElem_cons hkl]
            simp [hkl]
          clear hOc hOs hb hsp
          generalize (Pl.dig C 4).getD k 0 = x at *
          go_wp2
          go_roundw
          case rel => exact ⟨k + 1, _, by omega, by go_num, hsp'.out, O2.out, O3.out, B3.out⟩
          case measure => simp [intOf]; omega
        · obtain rfl : k = 4 := by omega
          rw [List.drop_of_length_le (by rw [Pl.length_dig]; decide), splice_nil] at hsp
          have O2 := hid hOc
          have B3 := hid hb
          clear hOc hOs hb
          go_wp2
          go_ret2
          exact ⟨g8, c8, rfl, hg9, by rw [← hsp]; exact O2.out, B3.out⟩

set_option maxRecDepth 100000 in
set_option maxHeartbeats 400000 in
theorem refStamp_kind (kind seq : Int) (a : Option Addr) (n c : Nat) (w : World) (h : kind < 1 ∨ 255 < kind) :
    Calls Try.prog 53 #[.int .i64 kind, .int .i64 seq, .slice a n c] w fun e w' => e = .returned (.tuple #[.slice none 0 0, .int .i64 13]) ∧ w' = w := by
  rcases h with h | h
  · go_enter Try.func53, Try.ntmps53
    go_wp2
    go_ret2
    exact ⟨rfl, rfl⟩
  · have h' : 1 ≤ kind := by omega
    go_enter Try.func53, Try.ntmps53
    go_wp2
    go_ret2
    exact ⟨rfl, rfl⟩
set_option maxRecDepth 100000 in
set_option maxHeartbeats 400000 in
theorem refStamp_seq (kind seq : Int) (a : Option Addr) (n c : Nat) (w : World) (k1 : 1 ≤ kind) (k2 : kind ≤ 255) (h : seq < 0 ∨ 1099511627776 < seq) :
    Calls Try.prog 53 #[.int .i64 kind, .int .i64 seq, .slice a n c] w fun e w' => e = .returned (.tuple #[.slice none 0 0, .int .i64 14]) ∧ w' = w := by
  rcases h with h | h
  · go_enter Try.func53, Try.ntmps53
    go_wp2
    go_ret2
    exact ⟨rfl, rfl⟩
  · have h' : 0 ≤ seq := by omega
    go_enter Try.func53, Try.ntmps53
    go_wp2
    go_ret2
    exact ⟨rfl, rfl⟩
set_option maxRecDepth 100000 in
set_option maxHeartbeats 400000 in
theorem refStamp_long (kind seq : Int) (a : Option Addr) (n c : Nat) (w : World) (k1 : 1 ≤ kind) (k2 : kind ≤ 255) (s1 : 0 ≤ seq) (s2 : seq ≤ 1099511627776) (h : 497 < n) :
    Calls Try.prog 53 #[.int .i64 kind, .int .i64 seq, .slice a n c] w fun e w' => e = .returned (.tuple #[.slice none 0 0, .int .i64 15]) ∧ w' = w := by
  have h' : (497 : Int) < (n : Int) := by omega
  go_enter Try.func53, Try.ntmps53
  go_wp2
  go_ret2
  exact ⟨rfl, rfl⟩

end Go.Proofs.Yteaebdonnicbkaa
