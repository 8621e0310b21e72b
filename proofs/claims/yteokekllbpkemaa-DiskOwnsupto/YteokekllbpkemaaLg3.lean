/-
  The Ledger: Write.
-/
import Derived.Test.YteokekllbpkemaaLga
import Derived.Deep.RegionHeld3
import Derived.Deep.AppendLies
import Derived.ArgAppend
import Derived.Test.YteokekllbpkemaaBkZ
import Derived.Test.YteokekllbpkemaaBkS
namespace Go.Proofs.Yteokekllbpkemaa
open Go.RowKit

/-- what a call of the ledger's turns, and the tags behind it -/
theorem info34 : (Try.prog.info? 34).map (fun i => (i.zero, i.size, i.bytes)) = some (some (.slice none 0 0), 1, 24) := by kernel_rfl
structure LF (κ κ' : Nat → Nat) (w w' : World) : Prop where
  but : But (fun y => 20 ≤ κ y) w w'
  lo : ∀ y, y < w.heap.size → κ y < 20 → κ' y = κ y
  hi : ∀ y, y < w.heap.size → 20 ≤ κ y → 20 ≤ κ' y
  new : ∀ y, w.heap.size ≤ y → 20 ≤ κ' y
theorem LF.step {κ κ' κ2 : Nat → Nat} {w w' w2 : World} (h : LF κ κ' w w') (hb : But (fun y => 20 ≤ κ' y) w' w2) (h1 : ∀ y, y < w'.heap.size → κ' y < 20 → κ2 y = κ' y) (h2 : ∀ y, 20 ≤ κ' y → 20 ≤ κ2 y) : LF κ κ2 w w2 := by
  have hs := h.but.size
  refine ⟨h.but.step hb (fun y hy e => ?_), fun y hy e => ?_, fun y hy e => h2 y (h.hi y hy e), fun y hy => h2 y (h.new y hy)⟩
  · refine Classical.byContradiction (fun hc => ?_)
    have := h.lo y hy (by omega)
    omega
  · rw [h1 y (by omega) (by rw [h.lo y hy e]; exact e), h.lo y hy e]
/-- the lists behind i rounds: marks in the first i -/
def Zo (Z : Nat → List Int) (cnt i j : Nat) : List Int := if j < i then mk4 (1000003 * ((cnt : Int) + (j : Int))) (Z j).length else Z j
theorem length_Zo (Z : Nat → List Int) (cnt i j : Nat) : (Zo Z cnt i j).length = (Z j).length := by
  unfold Zo
  split
  · rw [length_mk4]
  · rfl
theorem Zo_at (Z : Nat → List Int) (cnt i : Nat) : Zo Z cnt i i = Z i := by unfold Zo; rw [if_neg (by omega)]
theorem Zo_suc (Z : Nat → List Int) (cnt i : Nat) : Zo Z cnt (i + 1) i = mk4 (1000003 * ((cnt : Int) + (i : Int))) (Z i).length := by unfold Zo; rw [if_pos (by omega)]
theorem Zo_lt (Z : Nat → List Int) (cnt : Nat) {i j : Nat} (h : j < i) : Zo Z cnt i j = mk4 (1000003 * ((cnt : Int) + (j : Int))) (Z j).length := if_pos h
theorem tg2_ge {κ : Nat → Nat} {g t y : Nat} (ht : 20 ≤ t) (h : 20 ≤ κ y) : 20 ≤ tg2 κ g t y := by unfold tg2; split <;> omega
theorem rt4_ge {κ : Nat → Nat} {S i y : Nat} (h : 20 ≤ κ y) : 20 ≤ rt4 κ S i y := by unfold rt4; split <;> omega
def K2 (K : Nat → List Int) (n : Nat) (a b : List Int) (t : Nat) : List Int := if t = n then a else if t = n + 1 then b else K t
theorem K2_0 (K : Nat → List Int) (n : Nat) (a b : List Int) : K2 K n a b n = a := if_pos rfl
theorem K2_1 (K : Nat → List Int) (n : Nat) (a b : List Int) : K2 K n a b (n + 1) = b := by unfold K2; rw [if_neg (by omega), if_pos rfl]
theorem K2_lo (K : Nat → List Int) (n : Nat) (a b : List Int) {t : Nat} (h : t < n) : K2 K n a b t = K t := by unfold K2; rw [if_neg (by omega), if_neg (by omega)]
theorem Hk4.two {nK : Nat} {K : Nat → List Int} {ms : List Int} (h : Hk4 nK K ms) (hl : ms.length = nK) {m : Int} (m0 : 0 ≤ m) (m1 : m ≤ 20000000000000) {a b : Nat} (ha : a ≤ 134217728) (hb : b ≤ 134217728) : Hk4 (nK + 2) (K2 K nK (mk4 m a) (mk4 m b)) (ms ++ [m, m]) := by
  intro j hj
  by_cases e : j < nK
  · rw [K2_lo K nK _ _ e, List.getD_eq_getElem?_getD, List.getElem?_append_left (by omega), ← List.getD_eq_getElem?_getD]
    exact h j e
  · have hm : (ms ++ [m, m]).getD j 0 = m := by
      rw [List.getD_eq_getElem?_getD, List.getElem?_append_right (by omega), hl]
      rcases (show j - nK = 0 ∨ j - nK = 1 by omega) with e | e <;> rw [e] <;> rfl
    rw [hm]
    by_cases e2 : j = nK
    · subst e2
      rw [K2_0, length_mk4]
      exact ⟨ha, fun t ht => mk4_getD m ht, m0, by omega⟩
    · obtain rfl : j = nK + 1 := by omega
      rw [K2_1, length_mk4]
      exact ⟨hb, fun t ht => mk4_getD m ht, m0, by omega⟩
theorem Sl4.of_blk {κ : Nat → Nat} {w : World} {g : Nat} {zs : List Int} {n : Nat} (h : Blk .i64 3 w g zs) (hk : κ g = 40) (hl : zs.length = n) : Sl4 κ w (.slice (some ⟨g, 0, none⟩) n n) zs := by
  subst hl
  exact ⟨_, _, rfl, .inr ⟨g, rfl, hk, h.lt, fun t ht => h.cell t ht⟩⟩
theorem Sl4.of_owi {κ : Nat → Nat} {w : World} {B g n c : Nat} {zs : List Int} (h : OwI B w (.slice (some ⟨g, 0, none⟩) n c) n zs) (hk : κ g = 40) : Sl4 κ w (.slice (some ⟨g, 0, none⟩) n c) zs := by
  have hl := h.len
  subst hl
  refine ⟨_, _, rfl, ?_⟩
  obtain ⟨_, h2⟩ := h.rdi
  rcases h2 with h2 | ⟨b, o, e, h3, h4⟩
  · exact .inl h2
  · cases e
    exact .inr ⟨g, rfl, hk, h3, fun t ht => by have := h4 t ht; rw [Nat.zero_add] at this; exact this⟩
theorem Zo_ne (Z : Nat → List Int) (cnt i : Nat) {j : Nat} (h : j ≠ i) : Zo Z cnt (i + 1) j = Zo Z cnt i j := by
  unfold Zo
  by_cases e : j < i
  · rw [if_pos (by omega), if_pos e]
  · rw [if_neg (by omega), if_neg e]

set_option maxRecDepth 100000 in
set_option maxHeartbeats 8000000 in
theorem LWrite_cut {κ : Nat → Nat} {w : World} {q cnt tot n nK : Nat} {fr wa ke ma : Value} {fv hv kv : List Value} {ms : List Int} {Z K : Nat → List Int} (h : Lg κ w q cnt tot 0 n n nK nK fr wa ke ma fv hv kv ms Z K) (hk : Hk4 nK K ms) (hn : n ≤ 3) (hZ : ∀ i, i < n → (Z i).length ≤ 16777216) (hnK : nK ≤ 67108864) (hc : cnt ≤ 16777216) (ht : tot ≤ 33554432) (hnew : ∀ y, w.heap.size ≤ y → 20 ≤ κ y) :
    Calls Try.prog 47 #[.pointer (some ⟨q, 0, none⟩)] w fun e w' => e = .returned (.tuple #[]) ∧ ∃ κ' ke' ma' kv' ms' K', Lg κ' w' q ((cnt + n : Nat) : Int) tot 0 0 0 (nK + 2 * n) (nK + 2 * n) (.slice none 0 0) (.slice none 0 0) ke' ma' [] [] kv' ms' Z K' ∧ Hk4 (nK + 2 * n) K' ms' ∧ LF κ κ' w w' := by
  obtain ⟨i3, hi3, hz3, hs3, hb3⟩ := info_parts info3
  obtain ⟨i34, hi34, hz34, hs34, hb34⟩ := info_parts info34
  obtain ⟨a2, c2, rfl, _⟩ := owns_slice h.oF
  have H := hid h
  have Hk := hid hk
  clear h hk
  go_enter Try.func47, Try.ntmps47
  go_wp2_with fail
  go_loopw [2] (fun s wt => ∃ i : Nat, i ≤ n ∧ s = .int .i64 (i : Int) ∧ Lg κ wt q cnt tot 0 n n nK nK (.slice a2 n c2) wa ke ma fv hv kv ms (Zo Z cnt i) K ∧ But (fun y => 20 ≤ κ y) w wt) (fun s _ => n - (intOf s).toNat)
  case atStart => exact ⟨0, Nat.zero_le _, rfl, H.out.congr (fun j _ => by unfold Zo; rw [if_neg (by omega)]), But.refl _ _⟩
  case round =>
    clear H
    obtain ⟨i, hi, rfl, hL, hbt⟩ := hrel
    have q0 := hL.blk.cell 0
    have q2 := hL.blk.cell 2
    simp only [List.getElem?_toArray, List.getElem?_cons_succ, List.getElem?_cons_zero] at q0 q2
    by_cases hin : i < n
    · obtain ⟨g2, c2', e2, hl2, r2⟩ := row_at hL.oF hin
      cases e2
      obtain ⟨gz, ez, hbz, hkz⟩ := hL.fs i (Nat.zero_le _) hin
      rw [Zo_at] at ez hbz
      rw [ez] at r2
      have hzl := hZ i hin
      have nq : q ≠ gz := fun e => by have := hL.kq; rw [e] at this; omega
      have n2 : g2 ≠ gz := fun e => by have := hL.kF g2 rfl; rw [e] at this; omega
      have hql := hL.blk.lt
      obtain ⟨mi, hmi⟩ : ∃ mi : Int, 1000003 * ((cnt : Int) + (i : Int)) = mi := ⟨_, rfl⟩
      have m0 : 0 ≤ mi := by omega
      have m1 : mi ≤ 20000000000000 := by omega
      have hi1 : (i : Int) < (n : Int) := by omega
      have HL := hid hL
      have Hbt := hid hbt
      have Hez := hid (And.intro ez hkz)
      clear hL hbt ez hZ
      generalize hzz : (Z i).length = L at *
      have Hzz := hid hzz
      clear hzz
      go_wp2_with fail
      have Hmi := hid hmi
      clear hmi q0
      obtain ⟨W0, hW0⟩ : ∃ W0, W0 = wr := ⟨wr, rfl⟩
      subst hW0
      go_loopw [4] (fun s wt => ∃ k : Nat, ∃ ys, k ≤ L ∧ s = .int .i64 (k : Int) ∧ But (fun x => x = gz) W0 wt ∧ Blk .i64 3 wt gz ys ∧ ys.length = L ∧ ys.take k = (mk4 mi L).take k) (fun s _ => L - (intOf s).toNat)
      case atStart => exact ⟨0, _, Nat.zero_le _, rfl, But.refl _ _, hbz, Hzz.out, rfl⟩
      case round =>
        obtain ⟨k, ys, hk, rfl, hbk, hBy, hyl, hyt⟩ := hrel
        have p2 := (hbk.cell (p := ⟨q, 2, none⟩) hql nq).trans q2
        have pr2 := (hbk.cell (p := ⟨g2, i, none⟩) hl2 n2).trans r2
        by_cases hkL : k < L
        · have ug := hBy.cell k (by omega)
          have uf := hBy.frozen k
          have hk1 : (k : Int) < (L : Int) := by omega
          obtain ⟨mv, hmv⟩ : ∃ mv, mv = mi + (k : Int) := ⟨_, rfl⟩
          have ew : IntKind.i64.wrap (mi + (k : Int)) = mv := by rw [IntKind.wrap_i64]; omega
          have HBy := hid (hBy.set k mv)
          have HYt := hid (take_set (by omega) (by rw [length_mk4]; exact hkL) hyt (by rw [mk4_getD mi hkL]; exact hmv) : (ys.set k mv).take (k + 1) = (mk4 mi L).take (k + 1))
          have HYl := hid hyl
          have Hbk := hid (hbk.setCell (p := ⟨gz, k, none⟩) (show (fun x => x = gz) gz from rfl) (.int .i64 mv))
          clear hBy hyl hyt hbk hmv
          generalize ys.getD k 0 = old at *
          go_wp2_with fail
          go_roundw
          case rel => exact ⟨k + 1, _, by omega, by go_num, Hbk.out, HBy.out, by simpa using HYl.out, HYt.out⟩
          case measure => simp [intOf]; omega
        · rw [List.take_of_length_le (by omega), List.take_of_length_le (by rw [length_mk4]; omega)] at hyt
          rw [hyt] at hBy
          have HN := hid (HL.out.wrote (Z' := Zo Z cnt (i + 1)) (by omega) hin (by rw [Zo_at, Hzz.out]; exact Hez.out.1) Hez.out.2 hbk (by rw [Zo_suc, Hzz.out, Hmi.out]; exact hBy) (by rw [length_Zo, length_Zo]) (fun j hj => Zo_ne Z cnt i hj))
          have HB := hid (Hbt.out.step hbk (fun x _ e => by rw [e, Hez.out.2]; omega))
          clear hBy hyl hyt hbk
          go_wp2_with fail
          go_roundw
          case rel => exact ⟨i + 1, by omega, by go_num, HN.out, HB.out⟩
          case measure => simp [intOf]; omega
    · obtain rfl : i = n := by omega
      have HL := hid hL
      have Hbt := hid hbt
      have hin' : ¬ (i : Int) < (i : Int) := by omega
      clear hL hbt q0
      go_wp2_with fail
      clear q2 hin hin' hi
      go_loopw [5] (fun s wt => ∃ (j : Nat) (κ' : Nat → Nat) (ke' ma' : Value) (kv' : List Value) (ms' : List Int) (K' : Nat → List Int), j ≤ i ∧ s = .int .i64 (j : Int) ∧ Lg κ' wt q cnt tot j i i (nK + 2 * j) (nK + 2 * j) (.slice a2 i c2) wa ke' ma' fv hv kv' ms' (Zo Z cnt i) K' ∧ Hk4 (nK + 2 * j) K' ms' ∧ LF κ κ' w wt) (fun s _ => i - (intOf s).toNat)
      case atStart => exact ⟨0, κ, ke, ma, kv, ms, K, Nat.zero_le _, rfl, HL.out, Hk.out, ⟨Hbt.out, fun _ _ _ => rfl, fun _ _ e => e, hnew⟩⟩
      case round =>
        clear HL Hbt Hk hnew
        obtain ⟨j, κ', ke', ma', kv', ms', K', hj, rfl, hL, hK, hF⟩ := hrel
        have q0 := hL.blk.cell 0
        have q1 := hL.blk.cell 1
        have q2 := hL.blk.cell 2
        simp only [List.getElem?_toArray, List.getElem?_cons_succ, List.getElem?_cons_zero] at q0 q1 q2
        by_cases hji : j < i
        · obtain ⟨g2, c2', e2, hl2, r2⟩ := row_at hL.oF hji
          cases e2
          obtain ⟨gz, ez, hbz, hkz⟩ := hL.fs j (Nat.le_refl _) hji
          rw [length_Zo] at ez
          rw [Zo_lt Z cnt hji] at hbz
          rw [ez] at r2
          have hzl := hZ j hji
          have hql := hL.blk.lt
          obtain ⟨mi, hmi⟩ : ∃ mi : Int, 1000003 * ((cnt : Int) + (j : Int)) = mi := ⟨_, rfl⟩
          have m0 : 0 ≤ mi := by omega
          have m1 : mi ≤ 20000000000000 := by omega
          have hj1 : (j : Int) < (i : Int) := by omega
          rw [hmi] at hbz
          have HL := hid hL
          have HK := hid hK
          have HF := hid hF
          have Hbz := hid hbz
          have Hkz := hid hkz
          clear hL hK hF ez hZ hbz hkz
          generalize hzz : (Z j).length = L at *
          clear hzz
          go_wp2_with fail
          have Hmi := hid hmi
          clear hmi q0
          obtain ⟨W0, hW0⟩ : ∃ W0, W0 = wr := ⟨wr, rfl⟩
          subst hW0
          go_loopw [7, 8] (fun s7 s8 wt => ∃ k N : Nat, k ≤ tot + 70 ∧ s8 = .int .i64 (k : Int) ∧ N = L + k ∧ Below W0.heap.size W0 wt ∧ ((k = 0 ∧ s7 = .slice (some ⟨gz, 0, none⟩) L L) ∨ (0 < k ∧ ∃ G cap, s7 = .slice (some ⟨G, 0, none⟩) N cap ∧ W0.heap.size ≤ G ∧ OwI W0.heap.size wt (.slice (some ⟨G, 0, none⟩) N cap) N (mk4 mi N)))) (fun _ s8 _ => tot + 70 - (intOf s8).toNat)
          case atStart => exact ⟨0, L, Nat.zero_le _, rfl, rfl, Below.refl _ _, .inl ⟨rfl, rfl⟩⟩
          case round =>
            obtain ⟨k, N, hk, rfl, hN, hbk, halt⟩ := hrel
            have p1 := (hbk.cell (p := ⟨q, 1, none⟩) hql).trans q1
            by_cases hkT : k < tot + 70
            · have hk1 : (k : Int) < (tot : Int) + 70 := by omega
              have Hbk := hid hbk
              have HN := hid hN
              have hNl : N ≤ 67108864 := by omega
              rcases halt with ⟨rfl, rfl⟩ | ⟨hk0, G, cap, rfl, hGg, hO⟩
              · obtain rfl : N = L := by omega
                have hB0 := Hbz.out.below hbk Hbz.out.lt
                have Hol := hid (fun (b' : Addr) (hb' : some (⟨gz, 0, none⟩ : Addr) = some b') (j : Nat) (u : Value) (hu : ((mk4 mi N).map (Value.int .i64))[j]? = some u) => (show (wr.alloc (.cells #[.int .i64 (mi + (N : Int))] 3)).cell? (b'.add j) = some u from by
                  cases hb'
                  have hjl : j < (mk4 mi N).length := by have := (List.getElem?_eq_some_iff.1 hu).1; simpa using this
                  rw [add_plain' gz 0 j, Nat.zero_add, World.cell?_alloc_past _ _ _ hB0.lt, hB0.cell j hjl]
                  rw [List.getElem?_map, List.getElem?_eq_getElem hjl] at hu
                  rw [← hu]
                  simp [hjl]))
                clear hbk hN
                go_wp2_with (at_builtin; refine wpList_append_grows _ rfl _ _ 34 (by rfl) 3 i3 (.int .i64 0) 1 8 Try.underlying34 hi3 hz3 hs3 hb3 rfl (by decide) (some ⟨gz, 0, none⟩) N N ((mk4 mi N).map (Value.int .i64)) (by rfl) (fun h => by cases h) (by rw [List.length_map, length_mk4, Nat.mul_one]) (by exact Hol.out) ⟨wr.heap.size, 0, none⟩ 1 1 [.int .i64 (mi + (N : Int))] (by rfl) (by rfl) (by exact newsI wr _) (by intro u hu; simp at hu; subst hu; rfl) (by omega) (by unfold maxLen; omega) (by omega) ?_)
                intro v' w' ho hg
                obtain ⟨G, cap, rfl, hGs, _⟩ := owns_form ho (fun h => by rw [h] at ho; rcases ho.2 with ⟨_, h0⟩ | ⟨_, _, _, h1, _⟩; omega; cases h1)
                have HO' : Hid (OwI W0.heap.size w' (.slice (some ⟨G, 0, none⟩) (N + 1) cap) (N + 1) (mk4 mi (N + 1))) := by
                  show OwI _ _ _ _ _
                  unfold OwI
                  rw [mk4_succ, List.map_append]
                  exact owns_base ho (by have := Hbk.out.size; simp; omega)
                have HB' := hid (Hbk.out.trans ((((Below.refl wr.heap.size wr).alloc (Nat.le_refl _) (.cells #[.int .i64 (mi + (N : Int))] 3)).trans ((below_grown hg).mono (by simp))).mono Hbk.out.size))
                have hGe : W0.heap.size ≤ G := by have := Hbk.out.size; omega
                clear ho hg Hol hGs
                go_wp2
                go_roundw
                case rel => exact ⟨1, N + 1, by omega, by go_num, rfl, HB'.out, .inr ⟨by omega, G, cap, rfl, hGe, HO'.out⟩⟩
                case measure => simp [intOf]
              · have HO := hid (hO.alloc (.cells #[.int .i64 (mi + (N : Int))] 3))
                have hsb := hbk.size
                clear hbk hN hO
                go_wp2_with (at_builtin; refine wpList_append_lies _ rfl _ _ 34 (by rfl) W0.heap.size 3 i3 (.int .i64 0) 1 8 Try.underlying34 hi3 hz3 hs3 hb3 rfl (by decide) _ N ((mk4 mi N).map (Value.int .i64)) (by rfl) (by exact HO.out) ⟨wr.heap.size, 0, none⟩ 1 1 [.int .i64 (mi + (N : Int))] (by rfl) (by rfl) (by exact newsI wr _) (by intro u hu; simp at hu; subst hu; rfl) (by decide) (by unfold maxLen; omega) (by omega) (by simp; omega) (wr.heap.size + 1) (by simp) ?_)
                intro G' cap' w' ho hg hlie _
                have hGe : W0.heap.size ≤ G' := by
                  rcases hlie with h | h
                  · cases h; exact hGg
                  · omega
                have HO' : Hid (OwI W0.heap.size w' (.slice (some ⟨G', 0, none⟩) (N + 1) cap') (N + 1) (mk4 mi (N + 1))) := by
                  show OwI _ _ _ _ _
                  unfold OwI
                  rw [mk4_succ, List.map_append]
                  exact ho
                have HB' := hid ((Hbk.out.alloc hsb (.cells #[.int .i64 (mi + (N : Int))] 3)).grown hg (by simp; omega) (fun x e => by cases e; exact hGg))
                clear ho hg hlie HO
                go_wp2
                go_roundw
                case rel => exact ⟨k + 1, N + 1, by omega, by go_num, by have := HN.out; omega, HB'.out, .inr ⟨by omega, G', cap', rfl, hGe, HO'.out⟩⟩
                case measure => simp [intOf]; omega
            · obtain rfl : k = tot + 70 := by omega
              rcases halt with ⟨h0, _⟩ | ⟨_, G, cap, rfl, hGg, hO⟩
              · omega
              have hkT' : ¬ ((tot + 70 : Nat) : Int) < (tot : Int) + 70 := by omega
              have HO := hid hO
              have Hbk := hid hbk
              have hL1 := HL.out.settle hbk (by omega) hji
              have HL1 := hid hL1
              have q4 := hL1.blk.cell 4
              have q2' := hL1.blk.cell 2
              simp only [List.getElem?_toArray, List.getElem?_cons_succ, List.getElem?_cons_zero] at q4 q2'
              have pr2 := (hbk.cell (p := ⟨g2, j, none⟩) hl2).trans r2
              have HN2 := hid hN
              have hN3 : N ≤ 67108864 := by omega
              have HA := hid (HL1.out.below (((Below.refl _ _).alloc (Nat.le_refl _) (.cells #[.slice (some ⟨gz, 0, none⟩) L L, .slice (some ⟨G, 0, none⟩) N cap] 34)).drew))
              obtain ⟨a4, c4, e4, _⟩ := owns_slice HL1.out.oK
              subst e4
              have hqw := HL1.out.blk.lt
              have hg2w : g2 < wr.heap.size := Nat.lt_of_lt_of_le hl2 Hbk.out.size
              have ka4 : (wr.alloc (.cells #[.slice (some ⟨gz, 0, none⟩) L L, .slice (some ⟨G, 0, none⟩) N cap] 34)).cell? ⟨q, 4, none⟩ = some (.slice a4 (nK + 2 * j) c4) := (World.cell?_alloc_past _ _ _ hqw).trans q4
              clear hO hbk hkT hL1 hN hkT'
              have hkT' : ¬ ((tot : Int) + 70) < (tot : Int) + 70 := by omega
              go_wp2_with fail
              go_region_law (refine step_append_lies _ (by rfl) _ _ _ (by rfl) 0 34 i34 (.slice none 0 0) 1 24 Try.underlying38 hi34 hz34 hs34 hb34 rfl (by decide) _ (nK + 2 * j) kv' (by rfl) (by exact HA.out.oK) ⟨wr.heap.size, 0, none⟩ 2 2 [.slice (some ⟨gz, 0, none⟩) L L, .slice (some ⟨G, 0, none⟩) N cap] (by rfl) (by rfl) (by exact news2 wr _ _ 34) (by intro u hu; simp at hu; rcases hu with rfl | rfl <;> rfl) (by decide) (by unfold maxLen; omega) (by omega) (by omega) (wr.heap.size + 1) (by simp) ?_; intro g4 cap4 w5 ho4 hg4 hlie4 _; have HS4 := hid (And.intro ho4 (And.intro hg4 hlie4)); have bb : Lgb w5 q cnt tot _ _ _ _ := ((hg4.block q HA.out.blk.lt (fun e => (by have := HA.out.kK q e.symm; have := HA.out.kq; omega))).trans HA.out.blk); have c4'' := bb.cell 4; have f4'' := bb.frozen 4; simp only [List.getElem?_toArray, List.getElem?_cons_succ, List.getElem?_cons_zero] at c4''; clear ho4 hg4 hlie4 bb)
              all_goals
                have hml : ms'.length = nK + 2 * j := by have := HL1.out.oM.1; simpa using this
                have hkl : kv'.length = nK + 2 * j := by have := HL1.out.oK.1; simpa using this
                obtain ⟨hL2, kt2, kk2⟩ := HL1.out.stepK (m := 2) (K' := K2 K' (nK + 2 * j) (mk4 mi L) (mk4 mi N)) (((Below.refl wr.heap.size wr).alloc (Nat.le_refl _) (.cells #[.slice (some ⟨gz, 0, none⟩) L L, .slice (some ⟨G, 0, none⟩) N cap] 34)).drew) HS4.out.2.1 (HS4.out.2.2.imp id (fun e => by rw [e]; simp [World.drew])) rfl hkl (by rw [K2_0]; exact Sl4.of_blk (Hbz.out.below Hbk.out Hbz.out.lt) (rt4_at Hkz.out) (length_mk4 _ _)) (by rw [K2_1]; exact Sl4.of_owi HO.out (rt4_hi hGg)) (fun t h => K2_lo _ _ _ _ h) HS4.out.1
                have U6 := hid ((((But.of_below (X := fun y => 20 ≤ κ' y) Hbk.out).alloc (.cells #[.slice (some ⟨gz, 0, none⟩) L L, .slice (some ⟨G, 0, none⟩) N cap] 34)).drew.of_grown HS4.out.2.1 (fun x hx _ => by have := HL.out.kK x hx; show 20 ≤ κ' x; omega)).setCell (p := ⟨q, 4, none⟩) (show (fun y => 20 ≤ κ' y) q from by have := HL.out.kq; show 20 ≤ κ' q; omega) (.slice (some ⟨g4, 0, none⟩) (nK + 2 * j + 2) cap4))
                have HL2 := hid hL2
                have Hkk2 := hid kk2
                have Hml := hid hml
                obtain ⟨a5, c5, e5, _⟩ := owns_slice hL2.oM
                subst e5
                have q5 := hL2.blk.cell 5
                have f5 := hL2.blk.frozen 5
                simp only [List.getElem?_toArray, List.getElem?_cons_succ, List.getElem?_cons_zero] at q5
                have hsz6 := kt2.1
                clear hL2 kt2 kk2 hml hkl HS4 c4'' f4'' HA ka4 q4 q2' pr2
                generalize hw6 : w5.setCell ⟨q, 4, none⟩ (.slice (some ⟨g4, 0, none⟩) (nK + 2 * j + 2) cap4) = w6 at *
                clear hw6
                have HA6 := hid (HL2.out.below ((Below.refl _ _).alloc (Nat.le_refl _) (.cells #[.int .i64 mi, .int .i64 mi] 3)))
                go_wp2_with (at_builtin; refine wpList_append_lies _ rfl _ _ 34 (by rfl) 0 3 i3 (.int .i64 0) 1 8 Try.underlying34 hi3 hz3 hs3 hb3 rfl (by decide) _ (nK + 2 * j) (ms'.map (Value.int .i64)) (by rfl) (by exact HA6.out.oM) ⟨w6.heap.size, 0, none⟩ 2 2 [.int .i64 mi, .int .i64 mi] (by rfl) (by rfl) (by exact news2 w6 _ _ 3) (by intro u hu; simp at hu; subst hu; rfl) (by decide) (by unfold maxLen; omega) (by omega) (by omega) (w6.heap.size + 1) (by simp) ?_)
                intro g5 cap5 w7 ho5 hg5 hlie5 _
                obtain ⟨hL3, kt3, kk3⟩ := HL2.out.stepM (m := 2) (x := mi) (y := mi) ((Below.refl w6.heap.size w6).alloc (Nat.le_refl _) (.cells #[.int .i64 mi, .int .i64 mi] 3)) hg5 (hlie5.imp id (fun e => by rw [e]; simp)) (by rw [List.map_append]; exact ho5)
                have bb : Lgb w7 q cnt tot _ _ _ _ := ((hg5.block q HA6.out.blk.lt (fun e => (by have := HA6.out.kM q e.symm; have := HA6.out.kq; omega))).trans HA6.out.blk)
                have c5'' := bb.cell 5
                have f5'' := bb.frozen 5
                simp only [List.getElem?_toArray, List.getElem?_cons_succ, List.getElem?_cons_zero] at c5''
                have kM0 : ∀ x, (Value.slice a5 (nK + 2 * j) c5).ownBlock = some x → κ' x = 24 := HL.out.kM
                have U7 := (U6.out.alloc (.cells #[.int .i64 mi, .int .i64 mi] 3)).of_grown hg5 (fun x hx _ => by have := kM0 x hx; show 20 ≤ κ' x; omega)
                have U8 := U7.setCell (p := ⟨q, 5, none⟩) (show (fun y => 20 ≤ κ' y) q from by have := HL.out.kq; show 20 ≤ κ' q; omega) (.slice (some ⟨g5, 0, none⟩) (nK + 2 * j + 2) cap5)
                have FIN := hid (And.intro hL3 (And.intro (HK.out.two Hml.out m0 m1 (a := L) (b := N) (by omega) (by omega)) (HF.out.step (κ2 := tg2 (tg2 (rt4 κ' W0.heap.size j) g4 23) g5 24) U8 (fun y hy hlt => by
                  have s1 := Hbk.out.size
                  rw [kk3 y (by omega), Hkk2.out y (by omega), rt4_lo hy (by omega)]) (fun y hge => tg2_ge (by omega) (tg2_ge (by omega) (rt4_ge hge))))))
                clear hL3 kt3 kk3 bb ho5 hg5 hlie5 U7 U8 HL2 Hkk2 HA6 U6 q5 f5 kM0
                go_wp2
                go_roundw
                case rel => exact ⟨j + 1, _, _, _, _, _, _, by omega, by go_num, FIN.out.1, FIN.out.2.1, FIN.out.2.2⟩
                case measure => simp [intOf]; omega
        · have e : i = j := by omega
          subst e
          have hji' : ¬ (i : Int) < (i : Int) := by omega
          have f0 := hL.blk.frozen 0
          obtain ⟨mv, hmv⟩ : ∃ mv, mv = (cnt : Int) + (i : Int) := ⟨_, rfl⟩
          have ew : IntKind.i64.wrap ((cnt : Int) + (i : Int)) = mv := by rw [IntKind.wrap_i64]; omega
          obtain ⟨P1, b1⟩ := hL.setq (cnt' := mv) (tot' := tot) (lo' := i) (nF' := i) (nW' := i) (fr' := .slice a2 i c2) (wa' := wa) (fv' := fv) (hv' := hv) (j := 0) (v := .int .i64 mv) (by unfold Lgb; simpa using hL.blk.set 0 (.int .i64 mv)) (.inl ⟨rfl, rfl, rfl, rfl⟩) (.inl ⟨rfl, rfl, rfl⟩)
          obtain ⟨P2, b2⟩ := P1.setq (cnt' := mv) (tot' := tot) (lo' := 0) (nF' := 0) (nW' := i) (fr' := .slice none 0 0) (wa' := wa) (fv' := []) (hv' := hv) (j := 2) (v := .slice none 0 0) (by unfold Lgb; simpa using P1.blk.set 2 (.slice none 0 0)) (.inr ⟨rfl, rfl, rfl⟩) (.inl ⟨rfl, rfl, rfl⟩)
          obtain ⟨P3, b3⟩ := P2.setq (cnt' := mv) (tot' := tot) (lo' := 0) (nF' := 0) (nW' := 0) (fr' := .slice none 0 0) (wa' := .slice none 0 0) (fv' := []) (hv' := []) (j := 3) (v := .slice none 0 0) (by unfold Lgb; simpa using P2.blk.set 3 (.slice none 0 0)) (.inr ⟨rfl, rfl, rfl⟩) (.inr ⟨rfl, rfl, rfl⟩)
          have x2 := P1.blk.cell 2
          have y2 := P1.blk.frozen 2
          have x3 := P2.blk.cell 3
          have y3 := P2.blk.frozen 3
          simp only [List.getElem?_toArray, List.getElem?_cons_succ, List.getElem?_cons_zero] at x2 x3
          have kq' := hL.kq
          have tq : ∀ x, x = q → 20 ≤ κ' x := fun x e => by rw [e]; omega
          have U := ((But.refl (fun y => 20 ≤ κ' y) wr).step b1 (fun x _ e => tq x e)).step b2 (fun x _ e => tq x e)
          have FIN := hid (And.intro (P3.below (Below.refl _ _).drew) (And.intro hK (hF.step (κ2 := κ') (U.step b3 (fun x _ e => tq x e)).drew (fun _ _ _ => rfl) (fun _ h => h))))
          have Hmv := hid (show ((cnt + i : Nat) : Int) = mv from by omega)
          obtain ⟨aw, cw, e3, _⟩ := owns_slice hL.oW
          subst e3
          clear hL hK hF q1 P1 P2 P3 b1 b2 b3 U tq kq' hmv
          go_wp2_with fail
          go_region
          all_goals go_wp2
          all_goals
            go_end0
            exact ⟨rfl, κ', ke', ma', kv', ms', K', by rw [Hmv.out]; exact ⟨FIN.out.1.blk, FIN.out.1.kq, FIN.out.1.oF, FIN.out.1.kF, FIN.out.1.oW, FIN.out.1.kW, FIN.out.1.oK, FIN.out.1.kK, FIN.out.1.oM, FIN.out.1.kM, (fun t _ h2 => by omega), FIN.out.1.ks⟩, FIN.out.2.1, FIN.out.2.2⟩

theorem LF.of_cut {κ κ1 κ' : Nat → Nat} {w w' : World} (k1 : ∀ y, y < w.heap.size → κ1 y = κ y) (h : LF κ1 κ' w w') : LF κ κ' w w' :=
  ⟨h.but.mono (fun y hy e => by rw [← k1 y hy]; exact e), fun y hy e => by rw [h.lo y hy (by rw [k1 y hy]; exact e), k1 y hy], fun y hy e => h.hi y hy (by rw [k1 y hy]; exact e), h.new⟩
theorem LWrite_any {κ : Nat → Nat} {w : World} {q cnt tot n nK : Nat} {fr wa ke ma : Value} {fv hv kv : List Value} {ms : List Int} {Z K : Nat → List Int} (h : Lg κ w q cnt tot 0 n n nK nK fr wa ke ma fv hv kv ms Z K) (hk : Hk4 nK K ms) (hn : n ≤ 3) (hZ : ∀ i, i < n → (Z i).length ≤ 16777216) (hnK : nK ≤ 67108864) (hc : cnt ≤ 16777216) (ht : tot ≤ 33554432) :
    Calls Try.prog 47 #[.pointer (some ⟨q, 0, none⟩)] w fun e w' => e = .returned (.tuple #[]) ∧ ∃ κ' ke' ma' kv' ms' K', Lg κ' w' q ((cnt + n : Nat) : Int) tot 0 0 0 (nK + 2 * n) (nK + 2 * n) (.slice none 0 0) (.slice none 0 0) ke' ma' [] [] kv' ms' Z K' ∧ Hk4 (nK + 2 * n) K' ms' ∧ LF κ κ' w w' := by
  obtain ⟨κ1, k1, k2⟩ : ∃ κ1 : Nat → Nat, (∀ y, y < w.heap.size → κ1 y = κ y) ∧ ∀ y, w.heap.size ≤ y → 20 ≤ κ1 y := ⟨fun y => if y < w.heap.size then κ y else 40, fun y hy => if_pos hy, fun y hy => by show 20 ≤ (if y < w.heap.size then κ y else 40); rw [if_neg (by omega)]; omega⟩
  refine (LWrite_cut (h.keep (κ' := κ1) (T := fun _ => False) (Kt.below (Below.refl _ _)) (fun _ _ q => q) (fun g hg _ => k1 g hg)) hk hn hZ hnK hc ht k2).mono ?_
  rintro e w' ⟨rfl, κ', ke', ma', kv', ms', K', h1, h2, h3⟩
  exact ⟨rfl, κ', ke', ma', kv', ms', K', h1, h2, h3.of_cut k1⟩

end Go.Proofs.Yteokekllbpkemaa
