/-
  The document's least.
-/
import Derived.Test.YtajnokkmpjdliaaRf1
namespace Go.Proofs.Ytajnokkmpjdliaa
open Go.RowKit

def LeQ (n : Nat) (ls : List Int) (w : World) (e : Ending) (w' : World) : Prop := w' = w ∧ ((∃ x : Nat, e = .returned (.int .i64 (x : Int)) ∧ x < n ∧ gt ls x = 0 ∧ ∀ y, y < x → gt ls y ≠ 0) ∨ (e = .returned (.int .i64 (-1)) ∧ ∀ y, y < n → gt ls y ≠ 0))
theorem mul_wr (a b : Nat) (h : b = 64 * a) (hb : b ≤ 2097152) : wrap64 (64 * (a : Int)) = (b : Int) ∧ IntKind.i64.wrap (64 * (a : Int)) = (b : Int) ∧ wrap64 ((a : Int) * 64) = (b : Int) := ⟨by rw [w64 _ (by omega)]; omega, by rw [iw64 _ (by omega)]; omega, by rw [w64 _ (by omega)]; omega⟩
theorem inc_wr (a : Nat) (hb : a ≤ 2097152) : wrap64 ((a : Int) + 1) = (a : Int) + 1 ∧ IntKind.i64.wrap ((a : Int) + 1) = (a : Int) + 1 := ⟨w64 _ (by omega), iw64 _ (by omega)⟩

theorem mea_step {a p : Nat} (h : a + 1 ≤ p) : p - (intOf (.int .i64 ((a : Int) + 1))).toNat < p - (intOf (.int .i64 (a : Int))).toNat := by
  simp only [intOf]
  omega
set_option maxRecDepth 100000 in
set_option maxHeartbeats 4000000 in
theorem least_any (Hb lb eb tb ib xb n m : Nat) (ls fw lt fs nx : List Int) (hn : n ≤ 1048576) (w : World) (h : Hm w Hb lb eb tb ib xb n m ls fw lt fs nx) (hS : RS n ls fw lt) :
    Calls Try.prog 26 #[.pointer (some ⟨Hb, 0, none⟩)] w (LeQ n ls w) := by
  obtain ⟨PO, hPO⟩ : ∃ PO : Ending → World → Prop, PO = LeQ n ls w := ⟨_, rfl⟩
  rw [← hPO]
  have HPO := hid hPO
  obtain ⟨p1, hp1⟩ : ∃ p1, p1 = n / 64 + 1 := ⟨_, rfl⟩
  obtain ⟨p2, hp2⟩ : ∃ p2, p2 = n / 4096 + 1 := ⟨_, rfl⟩
  obtain ⟨c0, c1, c2, _, _⟩ := h.cells
  rw [← hp1] at c1
  rw [← hp2] at c2
  have HL : Hid (∀ j, j < n → ∃ z, z = gt ls j ∧ w.cell? ⟨lb, j, none⟩ = some (.int .i64 z)) := fun j hj => ⟨_, rfl, h.l.cell j (by rw [hS.l]; exact hj)⟩
  have HF : Hid (∀ j, j < p1 → ∃ z, z = gt fw j ∧ w.cell? ⟨eb, j, none⟩ = some (.int .i64 z)) := fun j hj => ⟨_, rfl, h.f.cell j (by rw [hS.fl]; omega)⟩
  have HT : Hid (∀ j, j < p2 → ∃ z, z = gt lt j ∧ w.cell? ⟨tb, j, none⟩ = some (.int .i64 z)) := fun j hj => ⟨_, rfl, h.t.cell j (by rw [hS.tl]; omega)⟩
  have HS := hid hS
  have HP1 := hid hp1
  have HP2 := hid hp2
  have HN := hid hn
  clear h hS hPO hp1 hp2
  go_enter Try.func26, Try.ntmps26
  go_wp2_with fail
  go_loopw [3] (fun iv wr => ∃ a : Nat, iv = .int .i64 (a : Int) ∧ a ≤ p2 ∧ (∀ x, x < n → x / 4096 < a → gt ls x ≠ 0) ∧ wr = w) (fun iv _ => p2 - (intOf iv).toNat)
  case atStart => exact ⟨0, rfl, by omega, fun x hx h => by omega, rfl⟩
  case round =>
    obtain ⟨a, rfl, ha, hno, hw⟩ := hrel
    subst hw
    have hn1 := HN.out
    have hP2 := HP2.out
    by_cases q : a = p2
    · have HD : Hid (PO (.returned (.int .i64 (-1))) wr) := by
        unfold Hid
        rw [HPO.out]
        exact ⟨rfl, .inr ⟨rfl, fun y hy => hno y hy (by omega)⟩⟩
      subst q
      clear ha hno hP2
      go_wp2_with fail
      exact HD.out
    · have hap : a < p2 := by omega
      have q1 : (a : Int) < (p2 : Int) := by omega
      have q2 : ¬ (a : Int) = (p2 : Int) := by omega
      have q3 : ¬ a = p2 := q
      obtain ⟨z, hz, c3⟩ := HT.out a hap
      have hzv := HS.out.t a (by omega)
      rw [← hz] at hzv
      by_cases p : z = 0
      · have HNx : Hid (a + 1 ≤ p2 ∧ ∀ x, x < n → x / 4096 < a + 1 → gt ls x ≠ 0) := ⟨by omega, fun x hx h9 => by
          by_cases e : x / 4096 = a
          · intro h0
            have : rc ls n 4096 a ≠ 0 := rc_ne.2 ⟨x, hx, h0, e⟩
            omega
          · exact hno x hx (by omega)⟩
        subst p
        obtain ⟨ew, ewb⟩ := inc_wr a (by omega)
        clear hz hzv hno ha hP2 q
        go_wp2_with fail
        refine ⟨⟨a + 1, by rw [Int.natCast_add]; rfl, HNx.out.1, HNx.out.2, trivial⟩, ?_⟩
        have h9 := HNx.out.1
        exact mea_step h9
      · obtain ⟨x0, hx0, hx1, hx2⟩ := rc_ne.1 (show rc ls n 4096 a ≠ 0 by omega)
        obtain ⟨b0, hb0⟩ : ∃ b0, b0 = 64 * a := ⟨_, rfl⟩
        have HX : Hid (x0 < n ∧ gt ls x0 = 0 ∧ x0 / 4096 = a ∧ b0 = 64 * a ∧ p1 = n / 64 + 1) := ⟨hx0, hx1, hx2, hb0, HP1.out⟩
        have HNo := hid hno
        obtain ⟨ew, ewb, ewc⟩ := mul_wr a b0 hb0 (by omega)
        clear hz hzv hno ha hP2 q hb0 hx0 hx1 hx2
        go_wp2_with fail
        clear ew ewb ewc
        go_loopw [4] (fun iv wr2 => ∃ b : Nat, iv = .int .i64 (b : Int) ∧ (∀ x, x < n → x / 64 < b → gt ls x ≠ 0) ∧ wr2 = wr) (fun iv _ => p1 - (intOf iv).toNat)
        case atStart => exact ⟨b0, rfl, fun x hx h9 => HNo.out x hx (by have := HX.out; omega), rfl⟩
        case round =>
          obtain ⟨b, rfl, hno, hw⟩ := hrel
          subst hw
          have hbp : b < p1 := by
            obtain ⟨h1, h2, h3, h4, h5⟩ := HX.out
            have := hno x0 h1
            by_cases e : x0 / 64 < b
            · exact absurd h2 (this e)
            · omega
          have q5 : (b : Int) < (p1 : Int) := by omega
          obtain ⟨z2, hz2, c4⟩ := HF.out b hbp
          have hzv2 := HS.out.f b (by have := HX.out; omega)
          rw [← hz2] at hzv2
          by_cases p9 : z2 = 0
          · have HNx : Hid (b + 1 ≤ p1 ∧ ∀ x, x < n → x / 64 < b + 1 → gt ls x ≠ 0) := ⟨by omega, fun x hx h9 => by
              by_cases e : x / 64 = b
              · intro h0
                have : rc ls n 64 b ≠ 0 := rc_ne.2 ⟨x, hx, h0, e⟩
                omega
              · exact hno x hx (by omega)⟩
            subst p9
            have hb9 : b ≤ 2097152 := by have := HX.out; omega
            obtain ⟨ew2, ew2b⟩ := inc_wr b hb9
            clear hz2 hzv2 hno
            go_wp2_with fail
            refine ⟨⟨b + 1, by rw [Int.natCast_add]; rfl, HNx.out.2, trivial⟩, ?_⟩
            have h9 := HNx.out.1
            exact mea_step h9
          · obtain ⟨x2, hy0, hy1, hy2⟩ := rc_ne.1 (show rc ls n 64 b ≠ 0 by omega)
            obtain ⟨y0, hy⟩ : ∃ y0, y0 = 64 * b := ⟨_, rfl⟩
            have HY : Hid (x2 < n ∧ gt ls x2 = 0 ∧ y0 ≤ x2) := ⟨hy0, hy1, by omega⟩
            have HNo2 : Hid (∀ y, y < y0 → gt ls y ≠ 0) := fun y h9 => hno y (by omega) (by omega)
            have hb9 : y0 ≤ 2097152 := by have := HX.out; omega
            obtain ⟨ew2, ew2b, ew2c⟩ := mul_wr b y0 hy hb9
            clear hz2 hzv2 hno hy hy0 hy1 hy2 HX HNo
            go_wp2_with fail
            clear ew2 ew2b ew2c
            go_loopw [5] (fun iv wr2 => ∃ x : Nat, iv = .int .i64 (x : Int) ∧ (∀ y, y < x → gt ls y ≠ 0) ∧ wr2 = wr) (fun iv _ => n - (intOf iv).toNat)
            case atStart => exact ⟨y0, rfl, HNo2.out, rfl⟩
            case round =>
              obtain ⟨x, rfl, hno, hw⟩ := hrel
              subst hw
              have hxn : x < n := by
                obtain ⟨h1, h2, h3⟩ := HY.out
                by_cases e : x2 < x
                · exact absurd h2 (hno x2 e)
                · omega
              have q6 : (x : Int) < (n : Int) := by omega
              obtain ⟨z3, hz3, c5⟩ := HL.out x hxn
              by_cases p8 : z3 = 0
              · have HD : Hid (PO (.returned (.int .i64 (x : Int))) wr) := by
                  unfold Hid
                  rw [HPO.out]
                  exact ⟨rfl, .inl ⟨x, rfl, hxn, by rw [← hz3]; exact p8, hno⟩⟩
                subst p8
                clear hz3 hno HY HNo2
                go_wp2_with fail
                exact HD.out
              · have HNx : Hid (x + 1 ≤ n ∧ ∀ y, y < x + 1 → gt ls y ≠ 0) := ⟨by omega, fun y h9 => by
                  by_cases e : y = x
                  · rw [e, ← hz3]; exact p8
                  · exact hno y (by omega)⟩
                obtain ⟨ew3, ew3b⟩ := inc_wr x (by omega)
                clear hz3 hno HY HNo2
                go_wp2_with fail
                refine ⟨⟨x + 1, by rw [Int.natCast_add]; rfl, HNx.out.2, trivial⟩, ?_⟩
                have h9 := HNx.out.1
                exact mea_step h9
end Go.Proofs.Ytajnokkmpjdliaa
