/-
  The Ledger: its blocks, by tags: 20 the record, 21 Fresh, 22 Was, 23 Kept, 24 Marks, 26 + i the i-th list untouched, 40 what is only read.
-/
import Derived.Test.YteokekllbpkemaaPy3
import Derived.Deep.RegionHeld3
namespace Go.Proofs.Yteokekllbpkemaa
open Go.RowKit

def Lgb (w : World) (q : Nat) (cnt tot : Int) (fr wa ke ma : Value) : Prop := w.heap[q]? = some (.cells #[.int .i64 cnt, .int .i64 tot, fr, wa, ke, ma] 40 (0, 0))
theorem Lgb.lt {w : World} {q : Nat} {cnt tot : Int} {fr wa ke ma : Value} (h : Lgb w q cnt tot fr wa ke ma) : q < w.heap.size := (Array.getElem?_eq_some_iff.1 h).1
theorem Lgb.cell {w : World} {q : Nat} {cnt tot : Int} {fr wa ke ma : Value} (h : Lgb w q cnt tot fr wa ke ma) (t : Nat) : w.cell? ⟨q, t, none⟩ = #[Value.int .i64 cnt, .int .i64 tot, fr, wa, ke, ma][t]? := by
  unfold Lgb at h
  simp [World.cell?, h]
theorem Lgb.frozen {w : World} {q : Nat} {cnt tot : Int} {fr wa ke ma : Value} (h : Lgb w q cnt tot fr wa ke ma) (t : Nat) : w.frozen? ⟨q, t, none⟩ = false := by
  unfold Lgb at h
  simp [World.frozen?, h]
theorem Lgb.set {w : World} {q : Nat} {cnt tot : Int} {fr wa ke ma : Value} (h : Lgb w q cnt tot fr wa ke ma) (t : Nat) (v : Value) : (w.setCell ⟨q, t, none⟩ v).heap[q]? = some (.cells (#[.int .i64 cnt, .int .i64 tot, fr, wa, ke, ma].setIfInBounds t v) 40 (0, 0)) := by
  unfold Lgb at h
  simp only [World.setCell, Array.getElem?_modify]
  rw [h]
  simp

/-- numbers that are only read -/
def Sl4 (κ : Nat → Nat) (w : World) (v : Value) (zs : List Int) : Prop :=
  ∃ a c, v = .slice a zs.length c ∧ (zs.length = 0 ∨ ∃ g, a = some ⟨g, 0, none⟩ ∧ κ g = 40 ∧ g < w.heap.size ∧ ∀ t, t < zs.length → w.cell? ⟨g, t, none⟩ = some (.int .i64 (zs.getD t 0)))
/-- a list of numbers, full, in a block of its own -/
def Fi (κ : Nat → Nat) (w : World) (v : Value) (zs : List Int) (t : Nat) : Prop := ∃ g, v = .slice (some ⟨g, 0, none⟩) zs.length zs.length ∧ Blk .i64 3 w g zs ∧ κ g = t
/-- blocks whose tags are none of T are as they were -/
def Kt (κ : Nat → Nat) (T : Nat → Prop) (w w' : World) : Prop := w.heap.size ≤ w'.heap.size ∧ ∀ g, g < w.heap.size → ¬ T (κ g) → w'.heap[g]? = w.heap[g]?
theorem Kt.below {κ : Nat → Nat} {T : Nat → Prop} {w w' : World} (h : Below w.heap.size w w') : Kt κ T w w' := ⟨h.size, fun g hg _ => h.block g hg⟩
theorem Kt.of_but {κ : Nat → Nat} {T X : Nat → Prop} {w w' : World} (h : But X w w') (hX : ∀ g, g < w.heap.size → X g → T (κ g)) : Kt κ T w w' := ⟨h.size, fun g hg hn => h.block g hg (fun hx => hn (hX g hg hx))⟩
theorem Sl4.keep {κ κ' : Nat → Nat} {T : Nat → Prop} {w w' : World} {v : Value} {zs : List Int} (h : Sl4 κ w v zs) (kp : Kt κ T w w') (hT : ¬ T 40) (hκ : ∀ g, g < w.heap.size → κ g = 40 → κ' g = 40) : Sl4 κ' w' v zs := by
  obtain ⟨a, c, e, h⟩ := h
  refine ⟨a, c, e, h.imp id (fun ⟨g, h1, h2, h3, h4⟩ => ⟨g, h1, hκ g h3 h2, Nat.lt_of_lt_of_le h3 kp.1, fun t ht => (World.cell?_of_block (w := w) (a := ⟨g, t, none⟩) (kp.2 g h3 (by rw [h2]; exact hT))).trans (h4 t ht)⟩)⟩
theorem Sl4.rdi {κ : Nat → Nat} {w : World} {v : Value} {zs : List Int} (h : Sl4 κ w v zs) : ∃ a c, v = .slice a zs.length c ∧ RdI w.heap.size w a zs.length zs := by
  obtain ⟨a, c, e, h⟩ := h
  refine ⟨a, c, e, rfl, h.imp id (fun ⟨g, h1, h2, h3, h4⟩ => ⟨g, 0, h1, h3, fun t ht => by rw [Nat.zero_add]; exact h4 t ht⟩)⟩
theorem Fi.keep {κ κ' : Nat → Nat} {T : Nat → Prop} {w w' : World} {v : Value} {zs : List Int} {t : Nat} (h : Fi κ w v zs t) (kp : Kt κ T w w') (hT : ¬ T t) (hκ : ∀ g, g < w.heap.size → κ g = t → κ' g = t) : Fi κ' w' v zs t := by
  obtain ⟨g, e, hb, hk⟩ := h
  exact ⟨g, e, hb.of_block (kp.2 g hb.lt (by rw [hk]; exact hT)), hκ g hb.lt hk⟩

structure Lg (κ : Nat → Nat) (w : World) (q : Nat) (cnt tot : Int) (lo nF nW nK nM : Nat) (fr wa ke ma : Value) (fv hv kv : List Value) (ms : List Int) (Z K : Nat → List Int) : Prop where
  blk : Lgb w q cnt tot fr wa ke ma
  kq : κ q = 20
  oF : w.ownsRow 0 34 1 fr nF fv
  kF : ∀ g, fr.ownBlock = some g → κ g = 21
  oW : w.ownsRow 0 34 1 wa nW hv
  kW : ∀ g, wa.ownBlock = some g → κ g = 22
  oK : w.ownsRow 0 34 1 ke nK kv
  kK : ∀ g, ke.ownBlock = some g → κ g = 23
  oM : OwI 0 w ma nM ms
  kM : ∀ g, ma.ownBlock = some g → κ g = 24
  fs : ∀ i, lo ≤ i → i < nF → Fi κ w (fv.getD i (.bool false)) (Z i) (26 + i)
  ks : ∀ j, j < nK → Sl4 κ w (kv.getD j (.bool false)) (K j)
def Hs4 (κ : Nat → Nat) (w : World) (n : Nat) (hv : List Value) (Z : Nat → List Int) : Prop := ∀ i, i < n → Sl4 κ w (hv.getD i (.bool false)) (Z i)
theorem Hs4.keep {κ κ' : Nat → Nat} {T : Nat → Prop} {w w' : World} {n : Nat} {hv : List Value} {Z : Nat → List Int} (h : Hs4 κ w n hv Z) (kp : Kt κ T w w') (hT : ¬ T 40) (hκ : ∀ g, g < w.heap.size → κ g = 40 → κ' g = 40) : Hs4 κ' w' n hv Z := fun i hi => (h i hi).keep kp hT hκ
theorem row_kt {κ : Nat → Nat} {T : Nat → Prop} {s : Nat} {w w' : World} {B e n : Nat} {v : Value} {xs : List Value} (h : w.ownsRow B e 1 v n xs) (hk : ∀ g, v.ownBlock = some g → κ g = s) (kp : Kt κ T w w') (hts : ¬ T s) : w'.ownsRow B e 1 v n xs :=
  owns_keep h (fun g hg => kp.2 g (World.ownsRow.lt h g hg).2 (by rw [hk g hg]; exact hts))
theorem row_tag {κ κ' : Nat → Nat} {s : Nat} {w : World} {B e n : Nat} {v : Value} {xs : List Value} (h : w.ownsRow B e 1 v n xs) (hk : ∀ g, v.ownBlock = some g → κ g = s) (hκ : ∀ g, g < w.heap.size → κ g = s → κ' g = s) : ∀ g, v.ownBlock = some g → κ' g = s :=
  fun g hg => hκ g (World.ownsRow.lt h g hg).2 (hk g hg)
/-- nothing of the ledger's has been turned -/
theorem Lg.keep {κ κ' : Nat → Nat} {w w' : World} {q : Nat} {cnt tot : Int} {lo nF nW nK nM : Nat} {fr wa ke ma : Value} {fv hv kv : List Value} {ms : List Int} {Z K : Nat → List Int} (h : Lg κ w q cnt tot lo nF nW nK nM fr wa ke ma fv hv kv ms Z K) {T : Nat → Prop} (kp : Kt κ T w w') (hT : ∀ t, 20 ≤ t → ¬ T t) (hκ : ∀ g, g < w.heap.size → 20 ≤ κ g → κ' g = κ g) : Lg κ' w' q cnt tot lo nF nW nK nM fr wa ke ma fv hv kv ms Z K := by
  have hκ' : ∀ s, 20 ≤ s → ∀ g, g < w.heap.size → κ g = s → κ' g = s := fun s hs g hg e => (hκ g hg (by omega)).trans e
  refine ⟨(kp.2 q h.blk.lt (by rw [h.kq]; exact hT 20 (by omega))).trans h.blk, hκ' 20 (by omega) q h.blk.lt h.kq, row_kt h.oF h.kF kp (hT _ (by omega)), row_tag h.oF h.kF (hκ' _ (by omega)), row_kt h.oW h.kW kp (hT _ (by omega)), row_tag h.oW h.kW (hκ' _ (by omega)), row_kt h.oK h.kK kp (hT _ (by omega)), row_tag h.oK h.kK (hκ' _ (by omega)), row_kt h.oM h.kM kp (hT _ (by omega)), row_tag h.oM h.kM (hκ' _ (by omega)), fun i h1 h2 => (h.fs i h1 h2).keep kp (hT _ (by omega)) (hκ' _ (by omega)), fun j hj => (h.ks j hj).keep kp (hT _ (by omega)) (hκ' _ (by omega))⟩
theorem Lg.below {κ : Nat → Nat} {w w' : World} {q : Nat} {cnt tot : Int} {lo nF nW nK nM : Nat} {fr wa ke ma : Value} {fv hv kv : List Value} {ms : List Int} {Z K : Nat → List Int} (h : Lg κ w q cnt tot lo nF nW nK nM fr wa ke ma fv hv kv ms Z K) (hb : Below w.heap.size w w') : Lg κ w' q cnt tot lo nF nW nK nM fr wa ke ma fv hv kv ms Z K :=
  h.keep (T := fun _ => False) (Kt.below hb) (fun _ _ q => q) (fun _ _ _ => rfl)
theorem row_at {w : World} {B e n : Nat} {v : Value} {xs : List Value} (h : w.ownsRow B e 1 v n xs) {i : Nat} (hi : i < n) : ∃ g c, v = .slice (some ⟨g, 0, none⟩) n c ∧ g < w.heap.size ∧ w.cell? ⟨g, i, none⟩ = some (xs.getD i (.bool false)) := by
  obtain ⟨g, c, h1, _, h2, h3⟩ := row_cell h hi
  exact ⟨g, c, h1, h2, h3⟩
/-- marks from m on -/
def mk4 (m : Int) (n : Nat) : List Int := (List.range n).map fun k : Nat => m + (k : Int)
theorem length_mk4 (m : Int) (n : Nat) : (mk4 m n).length = n := by simp [mk4]
theorem mk4_getD (m : Int) {n k : Nat} (h : k < n) : (mk4 m n).getD k 0 = m + (k : Int) := by simp [mk4, h]
theorem mk4_succ (m : Int) (n : Nat) : mk4 m (n + 1) = mk4 m n ++ [m + (n : Int)] := by simp [mk4, List.range_succ]
/-- what is kept holds its marks -/
def Hk4 (nK : Nat) (K : Nat → List Int) (ms : List Int) : Prop := ∀ j, j < nK → (K j).length ≤ 134217728 ∧ (∀ t, t < (K j).length → (K j).getD t 0 = ms.getD j 0 + (t : Int)) ∧ 0 ≤ ms.getD j 0 ∧ ms.getD j 0 ≤ 1125899906842624

end Go.Proofs.Yteokekllbpkemaa

/-
  The Ledger: Holds.
-/
namespace Go.Proofs.Yteokekllbpkemaa
open Go.RowKit

set_option maxRecDepth 100000 in
set_option maxHeartbeats 4000000 in
theorem LHolds_any {κ : Nat → Nat} {w : World} {q : Nat} {cnt tot : Int} {n nK : Nat} {fr wa ke ma : Value} {fv hv kv : List Value} {ms : List Int} {Z K : Nat → List Int} (h : Lg κ w q cnt tot 0 n n nK nK fr wa ke ma fv hv kv ms Z K) (hs : Hs4 κ w n hv Z) (hk : Hk4 nK K ms) (hn : n ≤ 3) (hZ : ∀ i, i < n → (Z i).length ≤ 134217728) (hnK : nK ≤ 134217728) :
    Calls Try.prog 18 #[.pointer (some ⟨q, 0, none⟩)] w fun e w' => e = .returned (.bool true) ∧ Below w.heap.size w w' := by
  have H := hid (And.intro h hs)
  have Hk := hid (And.intro hk hZ)
  obtain ⟨a2, c2, rfl, _⟩ := owns_slice h.oF
  obtain ⟨a3, c3, rfl, _⟩ := owns_slice h.oW
  obtain ⟨a4, c4, rfl, _⟩ := owns_slice h.oK
  obtain ⟨a5, c5, rfl, _⟩ := owns_slice h.oM
  clear h hs hk hZ
  go_enter Try.func18, Try.ntmps18
  go_wp2_with fail
  go_loopw [3] (fun s wt => ∃ i : Nat, i ≤ n ∧ s = .int .i64 (i : Int) ∧ Below w.heap.size w wt) (fun s _ => n - (intOf s).toNat)
  case atStart => exact ⟨0, Nat.zero_le _, rfl, Below.refl _ _⟩
  case round =>
    obtain ⟨i, hi, rfl, hbt⟩ := hrel
    have hL := H.out.1.below hbt
    have q2 := hL.blk.cell 2
    have q3 := hL.blk.cell 3
    simp only [List.getElem?_toArray, List.getElem?_cons_succ, List.getElem?_cons_zero] at q2 q3
    by_cases hin : i < n
    · obtain ⟨g2, c2', e2, hl2, r2⟩ := row_at hL.oF hin
      obtain ⟨g3, c3', e3, hl3, r3⟩ := row_at hL.oW hin
      cases e2
      cases e3
      obtain ⟨gz, ez, hbz, _⟩ := hL.fs i (Nat.zero_le _) hin
      obtain ⟨ah, ch, eh, hrd⟩ := (H.out.2.keep (κ' := κ) (T := fun _ => False) (Kt.below hbt) (fun q => q) (fun _ _ e => e) i hin).rdi
      rw [ez] at r2
      rw [eh] at r3
      have hzl := Hk.out.2 i hin
      have HSI := hid (SameInts_eq wr.heap.size _ _ _ (Z i).length ch _ wr.drew (Nat.le_refl _) hzl (RdI.of_blk hbz hbz.lt) hrd)
      have hi1 : (i : Int) < (n : Int) := by omega
      have Hbt := hid hbt
      have hql := hL.blk.lt
      clear hL hbt hbz hrd ez eh
      generalize (Z i).length = zl at *
      go_wp2_with fail
      go_region_held3 (fun w' => w'.cell? ⟨q, 2, none⟩ = some (.slice (some ⟨g2, 0, none⟩) n c2) ∧ w'.cell? ⟨q, 3, none⟩ = some (.slice (some ⟨g3, 0, none⟩) n c3) ∧ w'.cell? ⟨g2, i, none⟩ = some (.slice (some ⟨gz, 0, none⟩) zl zl) ∧ w'.cell? ⟨g3, i, none⟩ = some (.slice ah zl ch)) (first | (exact ⟨by assumption, by assumption, by assumption, by assumption⟩) | go_keep)
        ((go_at_call 15; refine Calls.mono HSI.out ?_; rintro e w2 ⟨rfl, hb2⟩
          have Hb2 := hid (undrew hb2)
          have p2 := (Hb2.out.cell (p := ⟨q, 2, none⟩) hql).trans q2
          have p3 := (Hb2.out.cell (p := ⟨q, 3, none⟩) hql).trans q3
          have pr2 := (Hb2.out.cell (p := ⟨g2, i, none⟩) hl2).trans r2
          have pr3 := (Hb2.out.cell (p := ⟨g3, i, none⟩) hl3).trans r3
          clear hb2))
      clear q2 q3 r2 r3 p2 p3 pr2 pr3 HSI
      go_wp2_with fail
      go_roundw
      case rel => exact ⟨i + 1, by omega, by go_num, Hbt.out.trans (Hb2.out.mono Hbt.out.size)⟩
      case measure => simp [intOf]; omega
    · have Hbt := hid hbt
      have hin' : ¬ (i : Int) < (n : Int) := by omega
      clear hbt hL q3
      go_wp2_with fail
      obtain ⟨W0, hW0⟩ : ∃ W0, W0 = wr := ⟨wr, rfl⟩
      subst hW0
      clear q2
      go_loopw [4] (fun s wt => ∃ j : Nat, j ≤ nK ∧ s = .int .i64 (j : Int) ∧ Below w.heap.size w wt) (fun s _ => nK - (intOf s).toNat)
      case atStart => exact ⟨0, Nat.zero_le _, rfl, Hbt.out⟩
      case round =>
        clear Hbt
        obtain ⟨j, hj, rfl, hbt⟩ := hrel
        have hL := H.out.1.below hbt
        have q4 := hL.blk.cell 4
        have q5 := hL.blk.cell 5
        simp only [List.getElem?_toArray, List.getElem?_cons_succ, List.getElem?_cons_zero] at q4 q5
        by_cases hjn : j < nK
        · obtain ⟨g4, c4', e4, hl4, r4⟩ := row_at hL.oK hjn
          obtain ⟨g5, c5', e5, hl5, r5⟩ := row_at hL.oM hjn
          cases e4
          cases e5
          obtain ⟨ak, ck, ek, hrd⟩ := (hL.ks j hjn).rdi
          obtain ⟨k1, k2, k3, k4⟩ := Hk.out.1 j hjn
          have hml : ms.length = nK := by have := hL.oM.1; simpa using this
          rw [ek] at r4
          rw [show (ms.map (Value.int .i64)).getD j (.bool false) = .int .i64 (ms.getD j 0) from by simp [show j < ms.length by omega]] at r5
          have hj1 : (j : Int) < (nK : Int) := by omega
          have Hbt := hid hbt
          have Hrd := hid hrd
          have Hk2 := hid k2
          have hql := hL.blk.lt
          clear hL hbt hrd ek k2
          generalize ms.getD j 0 = mj at *
          generalize hzl : (K j).length = zl at *
          have HC : Hid (∀ wt, Below wr.heap.size wr wt → wt.cell? ⟨q, 4, none⟩ = some (.slice (some ⟨g4, 0, none⟩) nK c4) ∧ wt.cell? ⟨q, 5, none⟩ = some (.slice (some ⟨g5, 0, none⟩) nK c5) ∧ wt.cell? ⟨g4, j, none⟩ = some (.slice ak zl ck) ∧ wt.cell? ⟨g5, j, none⟩ = some (.int .i64 mj)) := fun wt hb =>
            ⟨(hb.cell (p := ⟨q, 4, none⟩) hql).trans q4, (hb.cell (p := ⟨q, 5, none⟩) hql).trans q5, (hb.cell (p := ⟨g4, j, none⟩) hl4).trans r4, (hb.cell (p := ⟨g5, j, none⟩) hl5).trans r5⟩
          go_wp2_with fail
          obtain ⟨W1, hW1⟩ : ∃ W1, W1 = wr := ⟨wr, rfl⟩
          subst hW1
          clear q4 q5 r4 r5
          go_loopw [5] (fun s wt => ∃ t : Nat, t ≤ zl ∧ s = .int .i64 (t : Int) ∧ Below W1.heap.size W1 wt) (fun s _ => zl - (intOf s).toNat)
          case atStart => exact ⟨0, Nat.zero_le _, rfl, Below.refl _ _⟩
          case round =>
            obtain ⟨t, ht, rfl, hbt⟩ := hrel
            obtain ⟨q4, q5, r4, r5⟩ := HC.out wr hbt
            by_cases htz : t < zl
            · obtain ⟨bk, ok, rfl, hbk, hck⟩ := Hrd.out.2.resolve_left (by omega)
              have cz := (hbt.cell (p := ⟨bk, ok + t, none⟩) hbk).trans (hck t (by omega))
              rw [Hk2.out t (by omega)] at cz
              have ht1 : (t : Int) < (zl : Int) := by omega
              obtain ⟨mv, hmv⟩ : ∃ mv, mv = mj + (t : Int) := ⟨_, rfl⟩
              have ew : IntKind.i64.wrap (mj + (t : Int)) = mv := by rw [IntKind.wrap_i64]; omega
              rw [← hmv] at cz
              have Hb2 := hid hbt
              clear hck hbt hmv
              go_wp2_with fail
              go_region_held3 (fun w' => w'.cell? ⟨q, 4, none⟩ = some (.slice (some ⟨g4, 0, none⟩) nK c4) ∧ w'.cell? ⟨q, 5, none⟩ = some (.slice (some ⟨g5, 0, none⟩) nK c5) ∧ w'.cell? ⟨g4, j, none⟩ = some (.slice (some ⟨bk, ok, none⟩) zl ck) ∧ w'.cell? ⟨g5, j, none⟩ = some (.int .i64 mj) ∧ w'.cell? ⟨bk, ok + t, none⟩ = some (.int .i64 mv)) (first | (exact ⟨by assumption, by assumption, by assumption, by assumption, by assumption⟩) | go_keep) (fail)
              clear q4 q5 r4 r5 cz
              go_wp2_with fail
              go_roundw
              case rel => exact ⟨t + 1, by omega, by go_num, Hb2.out.drew⟩
              case measure => simp [intOf]; omega
            · have Hb2 := hid hbt
              have ht' : ¬ (t : Int) < (zl : Int) := by omega
              clear hbt q5 r5
              go_wp2_with fail
              go_roundw
              case rel => exact ⟨j + 1, by omega, by go_num, Hbt.out.trans (Hb2.out.mono Hbt.out.size)⟩
              case measure => simp [intOf]; omega
        · have Hb2 := hid hbt
          have hj' : ¬ (j : Int) < (nK : Int) := by omega
          clear hbt hL q5
          go_wp2
          go_ret
          exact ⟨rfl, Hb2.out⟩

end Go.Proofs.Yteokekllbpkemaa

/-
  The Ledger: its steps.
-/
namespace Go.Proofs.Yteokekllbpkemaa
open Go.RowKit

def tg2 (κ : Nat → Nat) (g t y : Nat) : Nat := if y = g then t else κ y
theorem tg2_at (κ : Nat → Nat) (g t : Nat) : tg2 κ g t g = t := if_pos rfl
theorem tg2_ne (κ : Nat → Nat) {g t y : Nat} (h : y ≠ g) : tg2 κ g t y = κ y := if_neg h
/-- a row of tag t has grown, and the record's cell has been set -/
theorem grew4 {κ : Nat → Nat} {t q j : Nat} {w wa w5 : World} {v u : Value} {g' : Nat} (ht : t ≠ 20) (hq : κ q = 20) (hql : q < w.heap.size) (hb : Below w.heap.size w wa) (hg : wa.grownBy w5 v.ownBlock) (hv : ∀ g, v.ownBlock = some g → κ g = t) (hl : v.ownBlock = some g' ∨ g' = wa.heap.size) :
    Kt κ (fun s => s = t ∨ s = 20) w (w5.setCell ⟨q, j, none⟩ u) ∧ (∀ y, y < w.heap.size → tg2 κ g' t y = κ y) ∧ w5.heap[q]? = w.heap[q]? ∧ g' ≠ q := by
  have hs := hb.size
  have e1 : ∀ y, y < w.heap.size → κ y ≠ t → w5.heap[y]? = w.heap[y]? := fun y hy hk => (hg.block y (by omega) (fun e => hk (hv y e.symm))).trans (hb.block y hy)
  refine ⟨⟨by have := hg.size; simp [World.setCell]; omega, fun y hy hn => ?_⟩, fun y hy => ?_, e1 q hql (by omega), fun e => ?_⟩
  · rw [Below.heap_setCell _ _ _ _ (fun e => hn (.inr (by rw [e]; exact hq)))]
    exact e1 y hy (fun e => hn (.inl e))
  · by_cases e : y = g'
    · rw [e, tg2_at]
      rcases hl with hl | hl
      · exact (hv g' hl).symm
      · omega
    · exact tg2_ne κ e
  · rcases hl with hl | hl
    · have := hv g' hl
      rw [e] at this
      omega
    · omega
theorem Lg.stepF {κ : Nat → Nat} {w wa w5 : World} {q : Nat} {cnt tot : Int} {lo nF nW nK nM : Nat} {fr wa' ke ma : Value} {fv hv kv : List Value} {ms : List Int} {Z K Z' : Nat → List Int} (h : Lg κ w q cnt tot lo nF nW nK nM fr wa' ke ma fv hv kv ms Z K) (hb : Below w.heap.size w wa) {g' m c' : Nat} (hg : wa.grownBy w5 fr.ownBlock) (hl : fr.ownBlock = some g' ∨ g' = wa.heap.size) {l : Value} (hm : m = 1) (hfl : fv.length = nF) (hlst : Fi κ w l (Z' nF) (26 + nF)) (hZ : ∀ i, i < nF → Z' i = Z i) (ho : w5.ownsRow 0 34 1 (.slice (some ⟨g', 0, none⟩) (nF + m) c') (nF + m) (fv ++ [l])) :
    Lg (tg2 κ g' 21) (w5.setCell ⟨q, 2, none⟩ (.slice (some ⟨g', 0, none⟩) (nF + m) c')) q cnt tot lo (nF + m) nW nK nM (.slice (some ⟨g', 0, none⟩) (nF + m) c') wa' ke ma (fv ++ [l]) hv kv ms Z' K ∧ Kt κ (fun s => s = 21 ∨ s = 20) w (w5.setCell ⟨q, 2, none⟩ (.slice (some ⟨g', 0, none⟩) (nF + m) c')) ∧ ∀ y, y < w.heap.size → tg2 κ g' 21 y = κ y := by
  obtain ⟨kp, hk0, hq5, nq⟩ := grew4 (j := 2) (u := (.slice (some ⟨g', 0, none⟩) (nF + m) c')) (by omega : 21 ≠ 20) h.kq h.blk.lt hb hg h.kF hl
  have hk : ∀ {s : Nat} g, g < w.heap.size → κ g = s → tg2 κ g' 21 g = s := fun g hg e => (hk0 g hg).trans e
  have b5 : Lgb w5 q cnt tot fr wa' ke ma := hq5.trans h.blk
  refine ⟨⟨by unfold Lgb; simpa using b5.set 2 (.slice (some ⟨g', 0, none⟩) (nF + m) c'), hk q h.blk.lt h.kq, owns_setCell (p := ⟨q, 2, none⟩) ho (fun e => nq (by simpa [Value.ownBlock] using e)) _, (fun g e => by cases e; exact tg2_at κ g' 21), row_kt h.oW h.kW kp (by omega), row_tag h.oW h.kW hk, row_kt h.oK h.kK kp (by omega), row_tag h.oK h.kK hk, row_kt h.oM h.kM kp (by omega), row_tag h.oM h.kM hk, fun i h1 h2 => ?_, fun j hj => (h.ks j hj).keep kp (by omega) hk⟩, kp, hk0⟩
  subst hm
  by_cases e : i < nF
  · rw [List.getD_eq_getElem?_getD, List.getElem?_append_left (by omega), ← List.getD_eq_getElem?_getD, hZ i e]
    exact (h.fs i h1 e).keep kp (by omega) hk
  · obtain rfl : i = nF := by omega
    rw [List.getD_eq_getElem?_getD, List.getElem?_append_right (by omega), hfl, Nat.sub_self]
    exact hlst.keep kp (by omega) hk
theorem Lg.stepW {κ : Nat → Nat} {w wa w5 : World} {q : Nat} {cnt tot : Int} {lo nF nW nK nM : Nat} {fr wa' ke ma : Value} {fv hv kv : List Value} {ms : List Int} {Z K : Nat → List Int} (h : Lg κ w q cnt tot lo nF nW nK nM fr wa' ke ma fv hv kv ms Z K) (hb : Below w.heap.size w wa) {g' m c' : Nat} (hg : wa.grownBy w5 wa'.ownBlock) (hl : wa'.ownBlock = some g' ∨ g' = wa.heap.size) {l : Value} (ho : w5.ownsRow 0 34 1 (.slice (some ⟨g', 0, none⟩) (nW + m) c') (nW + m) (hv ++ [l])) :
    Lg (tg2 κ g' 22) (w5.setCell ⟨q, 3, none⟩ (.slice (some ⟨g', 0, none⟩) (nW + m) c')) q cnt tot lo nF (nW + m) nK nM fr (.slice (some ⟨g', 0, none⟩) (nW + m) c') ke ma fv (hv ++ [l]) kv ms Z K ∧ Kt κ (fun s => s = 22 ∨ s = 20) w (w5.setCell ⟨q, 3, none⟩ (.slice (some ⟨g', 0, none⟩) (nW + m) c')) ∧ ∀ y, y < w.heap.size → tg2 κ g' 22 y = κ y := by
  obtain ⟨kp, hk0, hq5, nq⟩ := grew4 (j := 3) (u := (.slice (some ⟨g', 0, none⟩) (nW + m) c')) (by omega : 22 ≠ 20) h.kq h.blk.lt hb hg h.kW hl
  have hk : ∀ {s : Nat} g, g < w.heap.size → κ g = s → tg2 κ g' 22 g = s := fun g hg e => (hk0 g hg).trans e
  have b5 : Lgb w5 q cnt tot fr wa' ke ma := hq5.trans h.blk
  refine ⟨⟨by unfold Lgb; simpa using b5.set 3 (.slice (some ⟨g', 0, none⟩) (nW + m) c'), hk q h.blk.lt h.kq, row_kt h.oF h.kF kp (by omega), row_tag h.oF h.kF hk, owns_setCell (p := ⟨q, 3, none⟩) ho (fun e => nq (by simpa [Value.ownBlock] using e)) _, (fun g e => by cases e; exact tg2_at κ g' 22), row_kt h.oK h.kK kp (by omega), row_tag h.oK h.kK hk, row_kt h.oM h.kM kp (by omega), row_tag h.oM h.kM hk, fun i h1 h2 => (h.fs i h1 h2).keep kp (by omega) hk, fun j hj => (h.ks j hj).keep kp (by omega) hk⟩, kp, hk0⟩
theorem Lg.stepK {κ : Nat → Nat} {w wa w5 : World} {q : Nat} {cnt tot : Int} {lo nF nW nK nM : Nat} {fr wa' ke ma : Value} {fv hv kv : List Value} {ms : List Int} {Z K K' : Nat → List Int} (h : Lg κ w q cnt tot lo nF nW nK nM fr wa' ke ma fv hv kv ms Z K) (hb : Below w.heap.size w wa) {g' m c' : Nat} (hg : wa.grownBy w5 ke.ownBlock) (hl : ke.ownBlock = some g' ∨ g' = wa.heap.size) {u v : Value} (hm : m = 2) (hkl : kv.length = nK) (hu : Sl4 κ w u (K' nK)) (hv' : Sl4 κ w v (K' (nK + 1))) (hK : ∀ j, j < nK → K' j = K j) (ho : w5.ownsRow 0 34 1 (.slice (some ⟨g', 0, none⟩) (nK + m) c') (nK + m) (kv ++ [u, v])) :
    Lg (tg2 κ g' 23) (w5.setCell ⟨q, 4, none⟩ (.slice (some ⟨g', 0, none⟩) (nK + m) c')) q cnt tot lo nF nW (nK + m) nM fr wa' (.slice (some ⟨g', 0, none⟩) (nK + m) c') ma fv hv (kv ++ [u, v]) ms Z K' ∧ Kt κ (fun s => s = 23 ∨ s = 20) w (w5.setCell ⟨q, 4, none⟩ (.slice (some ⟨g', 0, none⟩) (nK + m) c')) ∧ ∀ y, y < w.heap.size → tg2 κ g' 23 y = κ y := by
  obtain ⟨kp, hk0, hq5, nq⟩ := grew4 (j := 4) (u := (.slice (some ⟨g', 0, none⟩) (nK + m) c')) (by omega : 23 ≠ 20) h.kq h.blk.lt hb hg h.kK hl
  have hk : ∀ {s : Nat} g, g < w.heap.size → κ g = s → tg2 κ g' 23 g = s := fun g hg e => (hk0 g hg).trans e
  have b5 : Lgb w5 q cnt tot fr wa' ke ma := hq5.trans h.blk
  refine ⟨⟨by unfold Lgb; simpa using b5.set 4 (.slice (some ⟨g', 0, none⟩) (nK + m) c'), hk q h.blk.lt h.kq, row_kt h.oF h.kF kp (by omega), row_tag h.oF h.kF hk, row_kt h.oW h.kW kp (by omega), row_tag h.oW h.kW hk, owns_setCell (p := ⟨q, 4, none⟩) ho (fun e => nq (by simpa [Value.ownBlock] using e)) _, (fun g e => by cases e; exact tg2_at κ g' 23), row_kt h.oM h.kM kp (by omega), row_tag h.oM h.kM hk, fun i h1 h2 => (h.fs i h1 h2).keep kp (by omega) hk, fun j hj => ?_⟩, kp, hk0⟩
  subst hm
  by_cases e : j < nK
  · rw [List.getD_eq_getElem?_getD, List.getElem?_append_left (by omega), ← List.getD_eq_getElem?_getD, hK j e]
    exact (h.ks j e).keep kp (by omega) hk
  · rw [List.getD_eq_getElem?_getD, List.getElem?_append_right (by omega), hkl]
    by_cases e2 : j = nK
    · subst e2
      rw [Nat.sub_self]
      exact hu.keep kp (by omega) hk
    · obtain rfl : j = nK + 1 := by omega
      rw [Nat.add_sub_cancel_left]
      exact hv'.keep kp (by omega) hk
theorem Lg.stepM {κ : Nat → Nat} {w wa w5 : World} {q : Nat} {cnt tot : Int} {lo nF nW nK nM : Nat} {fr wa' ke ma : Value} {fv hv kv : List Value} {ms : List Int} {Z K : Nat → List Int} (h : Lg κ w q cnt tot lo nF nW nK nM fr wa' ke ma fv hv kv ms Z K) (hb : Below w.heap.size w wa) {g' m c' : Nat} (hg : wa.grownBy w5 ma.ownBlock) (hl : ma.ownBlock = some g' ∨ g' = wa.heap.size) {x y : Int} (ho : w5.ownsRow 0 3 1 (.slice (some ⟨g', 0, none⟩) (nM + m) c') (nM + m) ((ms ++ [x, y]).map (Value.int .i64))) :
    Lg (tg2 κ g' 24) (w5.setCell ⟨q, 5, none⟩ (.slice (some ⟨g', 0, none⟩) (nM + m) c')) q cnt tot lo nF nW nK (nM + m) fr wa' ke (.slice (some ⟨g', 0, none⟩) (nM + m) c') fv hv kv (ms ++ [x, y]) Z K ∧ Kt κ (fun s => s = 24 ∨ s = 20) w (w5.setCell ⟨q, 5, none⟩ (.slice (some ⟨g', 0, none⟩) (nM + m) c')) ∧ ∀ y, y < w.heap.size → tg2 κ g' 24 y = κ y := by
  obtain ⟨kp, hk0, hq5, nq⟩ := grew4 (j := 5) (u := (.slice (some ⟨g', 0, none⟩) (nM + m) c')) (by omega : 24 ≠ 20) h.kq h.blk.lt hb hg h.kM hl
  have hk : ∀ {s : Nat} g, g < w.heap.size → κ g = s → tg2 κ g' 24 g = s := fun g hg e => (hk0 g hg).trans e
  have b5 : Lgb w5 q cnt tot fr wa' ke ma := hq5.trans h.blk
  refine ⟨⟨by unfold Lgb; simpa using b5.set 5 (.slice (some ⟨g', 0, none⟩) (nM + m) c'), hk q h.blk.lt h.kq, row_kt h.oF h.kF kp (by omega), row_tag h.oF h.kF hk, row_kt h.oW h.kW kp (by omega), row_tag h.oW h.kW hk, row_kt h.oK h.kK kp (by omega), row_tag h.oK h.kK hk, owns_setCell (p := ⟨q, 5, none⟩) ho (fun e => nq (by simpa [Value.ownBlock] using e)) _, (fun g e => by cases e; exact tg2_at κ g' 24), fun i h1 h2 => (h.fs i h1 h2).keep kp (by omega) hk, fun j hj => (h.ks j hj).keep kp (by omega) hk⟩, kp, hk0⟩

/-- list i is settled, and all that is new -/
def rt4 (κ : Nat → Nat) (S i y : Nat) : Nat := if S ≤ y ∨ κ y = 26 + i then 40 else κ y
theorem rt4_lo {κ : Nat → Nat} {S i y : Nat} (h : y < S) (hi : κ y ≠ 26 + i) : rt4 κ S i y = κ y := if_neg (fun q => q.elim (fun q => by omega) hi)
theorem rt4_at {κ : Nat → Nat} {S i y : Nat} (hi : κ y = 26 + i) : rt4 κ S i y = 40 := if_pos (.inr hi)
theorem rt4_hi {κ : Nat → Nat} {S i y : Nat} (h : S ≤ y) : rt4 κ S i y = 40 := if_pos (.inl h)
theorem Lg.settle {κ : Nat → Nat} {w w' : World} {q : Nat} {cnt tot : Int} {i nF nW nK nM : Nat} {fr wa ke ma : Value} {fv hv kv : List Value} {ms : List Int} {Z K : Nat → List Int} (h : Lg κ w q cnt tot i nF nW nK nM fr wa ke ma fv hv kv ms Z K) (hb : Below w.heap.size w w') (hn : nF ≤ 10) (hi : i < nF) : Lg (rt4 κ w.heap.size i) w' q cnt tot (i + 1) nF nW nK nM fr wa ke ma fv hv kv ms Z K := by
  have kp : Kt κ (fun _ => False) w w' := Kt.below hb
  have hk : ∀ {s : Nat}, s ≠ 26 + i → ∀ g, g < w.heap.size → κ g = s → rt4 κ w.heap.size i g = s := fun hs g hg e => (rt4_lo hg (by omega)).trans e
  exact ⟨(hb.block q h.blk.lt).trans h.blk, hk (by omega) q h.blk.lt h.kq, row_kt h.oF h.kF kp (fun q => q), row_tag h.oF h.kF (hk (by omega)), row_kt h.oW h.kW kp (fun q => q), row_tag h.oW h.kW (hk (by omega)), row_kt h.oK h.kK kp (fun q => q), row_tag h.oK h.kK (hk (by omega)), row_kt h.oM h.kM kp (fun q => q), row_tag h.oM h.kM (hk (by omega)),
    fun j h1 h2 => (h.fs j (by omega) h2).keep kp (fun q => q) (hk (by omega)), fun j hj => (h.ks j hj).keep kp (fun q => q) (hk (by omega))⟩
/-- list i has been written over -/
theorem Lg.wrote {κ : Nat → Nat} {w w' : World} {q : Nat} {cnt tot : Int} {nF nW nK nM : Nat} {fr wa ke ma : Value} {fv hv kv : List Value} {ms : List Int} {Z Z' K : Nat → List Int} (h : Lg κ w q cnt tot 0 nF nW nK nM fr wa ke ma fv hv kv ms Z K) {i g : Nat} (hn : nF ≤ 10) (hi : i < nF) (he : fv.getD i (.bool false) = .slice (some ⟨g, 0, none⟩) (Z i).length (Z i).length) (hg : κ g = 26 + i) (hb : But (fun x => x = g) w w') (hB : Blk .i64 3 w' g (Z' i)) (hl : (Z' i).length = (Z i).length) (hZ : ∀ j, j ≠ i → Z' j = Z j) :
    Lg κ w' q cnt tot 0 nF nW nK nM fr wa ke ma fv hv kv ms Z' K := by
  have kp : Kt κ (fun s => s = 26 + i) w w' := Kt.of_but hb (fun x _ e => by rw [e]; exact hg)
  have hk : ∀ {s : Nat} x, x < w.heap.size → κ x = s → κ x = s := fun _ _ e => e
  refine ⟨(kp.2 q h.blk.lt (by rw [h.kq]; omega)).trans h.blk, h.kq, row_kt h.oF h.kF kp (by omega), h.kF, row_kt h.oW h.kW kp (by omega), h.kW, row_kt h.oK h.kK kp (by omega), h.kK, row_kt h.oM h.kM kp (by omega), h.kM, fun j h1 h2 => ?_, fun j hj => (h.ks j hj).keep kp (by omega) hk⟩
  by_cases e : j = i
  · subst e
    exact ⟨g, by rw [hl]; exact he, hB, hg⟩
  · rw [hZ j e]
    exact (h.fs j h1 h2).keep kp (by omega) hk
theorem Lg.congr {κ : Nat → Nat} {w : World} {q : Nat} {cnt tot : Int} {lo nF nW nK nM : Nat} {fr wa ke ma : Value} {fv hv kv : List Value} {ms : List Int} {Z Z' K : Nat → List Int} (h : Lg κ w q cnt tot lo nF nW nK nM fr wa ke ma fv hv kv ms Z K) (hZ : ∀ j, j < nF → Z' j = Z j) : Lg κ w q cnt tot lo nF nW nK nM fr wa ke ma fv hv kv ms Z' K :=
  ⟨h.blk, h.kq, h.oF, h.kF, h.oW, h.kW, h.oK, h.kK, h.oM, h.kM, fun j h1 h2 => by rw [hZ j h2]; exact h.fs j h1 h2, h.ks⟩
/-- the record's numbers are set -/
theorem Lg.setq {κ : Nat → Nat} {w : World} {q : Nat} {cnt tot cnt' tot' : Int} {lo lo' nF nW nF' nW' nK nM : Nat} {fr wa fr' wa' ke ma : Value} {fv hv fv' hv' kv : List Value} {ms : List Int} {Z K : Nat → List Int} (h : Lg κ w q cnt tot lo nF nW nK nM fr wa ke ma fv hv kv ms Z K) {j : Nat} {v : Value} (hb : Lgb (w.setCell ⟨q, j, none⟩ v) q cnt' tot' fr' wa' ke ma) (hF : (fr' = fr ∧ nF' = nF ∧ fv' = fv ∧ lo' = lo) ∨ (fr' = .slice none 0 0 ∧ nF' = 0 ∧ fv' = [])) (hW : (wa' = wa ∧ nW' = nW ∧ hv' = hv) ∨ (wa' = .slice none 0 0 ∧ nW' = 0 ∧ hv' = [])) :
    Lg κ (w.setCell ⟨q, j, none⟩ v) q cnt' tot' lo' nF' nW' nK nM fr' wa' ke ma fv' hv' kv ms Z K ∧ But (fun x => x = q) w (w.setCell ⟨q, j, none⟩ v) := by
  have hbt : But (fun x => x = q) w (w.setCell ⟨q, j, none⟩ v) := (But.refl (fun x => x = q) w).setCell (p := ⟨q, j, none⟩) (show (fun x => x = q) q from rfl) v
  have kp : Kt κ (fun s => s = 20) w (w.setCell ⟨q, j, none⟩ v) := Kt.of_but hbt (fun x _ e => by rw [e]; exact h.kq)
  have hk : ∀ {s : Nat} x, x < w.heap.size → κ x = s → κ x = s := fun _ _ e => e
  refine ⟨⟨hb, h.kq, ?_, ?_, ?_, ?_, row_kt h.oK h.kK kp (by omega), h.kK, row_kt h.oM h.kM kp (by omega), h.kM, ?_, fun j hj => (h.ks j hj).keep kp (by omega) hk⟩, hbt⟩
  · rcases hF with ⟨rfl, rfl, rfl, rfl⟩ | ⟨rfl, rfl, rfl⟩
    · exact row_kt h.oF h.kF kp (by omega)
    · exact ⟨rfl, .inl ⟨rfl, rfl⟩⟩
  · rcases hF with ⟨rfl, rfl, rfl, rfl⟩ | ⟨rfl, rfl, rfl⟩
    · exact h.kF
    · exact fun g e => by cases e
  · rcases hW with ⟨rfl, rfl, rfl⟩ | ⟨rfl, rfl, rfl⟩
    · exact row_kt h.oW h.kW kp (by omega)
    · exact ⟨rfl, .inl ⟨rfl, rfl⟩⟩
  · rcases hW with ⟨rfl, rfl, rfl⟩ | ⟨rfl, rfl, rfl⟩
    · exact h.kW
    · exact fun g e => by cases e
  · rcases hF with ⟨rfl, rfl, rfl, rfl⟩ | ⟨rfl, rfl, rfl⟩
    · exact fun i h1 h2 => (h.fs i h1 h2).keep kp (by omega) hk
    · exact fun i h1 h2 => by omega

end Go.Proofs.Yteokekllbpkemaa
