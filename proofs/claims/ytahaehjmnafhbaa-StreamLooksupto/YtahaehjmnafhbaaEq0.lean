/-
  bytes.Equal, bytes.HasPrefix, packed.
-/
import Derived.Test.YtahaehjmnafhbaaSt1
import Derived.Shelf.Bytes.SlEqualAll
namespace Go.Proofs.Ytahaehjmnafhbaa
open Go.RowKit Go.Shelf
def equalA_ren : Go.Shelf.Ren := ⟨fun | 115 => 15 | n => n, fun | 37 => 22 | 4 => 4 | 9 => 9 | 5 => 5 | n => n, fun | n => n⟩
theorem equalA : Go.Proofs.Lays.nb115 Try.prog equalA_ren := {
  mixed := by kernel_rfl
  f115 := Try.func15.trans (congrArg some (by kernel_rfl))
  t4 := Try.underlying4
  a4 := Try.isAgg4
  z4 := Try.sizeOf4
  v4 := Try.zeroValue4
  t9 := Try.underlying9
  a9 := Try.isAgg9
  z9 := Try.sizeOf9
  v9 := Try.zeroValue9
  t37 := Try.underlying22
  a37 := Try.isAgg22
  z37 := Try.sizeOf22
  v37 := Try.zeroValue22
  t5 := Try.underlying5
  a5 := Try.isAgg5
  z5 := Try.sizeOf5
  v5 := Try.zeroValue5 }

theorem bytes_inj : ∀ {xs ys : List Int}, Pl.isB xs → Pl.isB ys → Lib.bytesOf xs = Lib.bytesOf ys → xs = ys
  | [], [], _, _, _ => rfl
  | [], _ :: _, _, _, h => by simp [Lib.bytesOf] at h
  | _ :: _, [], _, _, h => by simp [Lib.bytesOf] at h
  | x :: xs, y :: ys, hx, hy, h => by
    simp only [Lib.bytesOf, List.map_cons, List.cons.injEq] at h
    have h1 := hx x (by simp)
    have h2 := hy y (by simp)
    have e : x = y := by
      have := congrArg UInt8.toNat h.1
      simp at this
      omega
    rw [e, bytes_inj (fun z hz => hx z (by simp [hz])) (fun z hz => hy z (by simp [hz])) h.2]
theorem Equal_any {B B2 : Nat} {w : World} {a1 a2 : Option Addr} {n1 n2 : Nat} (c1 c2 : Nat) {xs ys : List Int} (h1 : Rd B w a1 n1 xs) (h2 : Rd B2 w a2 n2 ys) : Calls Try.prog 15 #[.slice a1 n1 c1, .slice a2 n2 c2] w fun e w' => e = .returned (.bool (decide (xs = ys))) ∧ w' = w := by
  refine Calls.mono (Any.bytes_Equal_all equalA a1 a2 n1 c1 n2 c2 xs ys w h1.1 h2.1 (fun q => ?_) (fun q => ?_)) ?_
  · obtain ⟨b, off, e, _, hc⟩ := h1.2.2.resolve_left (by omega)
    exact ⟨b, off, e, hc⟩
  · obtain ⟨b, off, e, _, hc⟩ := h2.2.2.resolve_left (by omega)
    exact ⟨b, off, e, hc⟩
  rintro e w' ⟨rfl, rfl⟩
  refine ⟨?_, rfl⟩
  congr 2
  by_cases q : xs = ys
  · simp [q]
  · have : ¬ Lib.bytesOf xs = Lib.bytesOf ys := fun r => q (bytes_inj h1.2.1 h2.2.1 r)
    simp [q, this]

theorem rd_take {B : Nat} {w : World} {b off n : Nat} {zs : List Int} (h : Rd B w (some ⟨b, off, none⟩) n zs) (m : Nat) (hm : m ≤ n) : Rd B w (some ⟨b, off, none⟩) m (zs.take m) := by
  obtain ⟨h1, h2, h3⟩ := h
  refine ⟨by simp; omega, Pl.isB_take h2 _, ?_⟩
  rcases h3 with h3 | ⟨b', off', e, hb, hc⟩
  · left; omega
  · right
    refine ⟨b', off', e, hb, fun t ht => ?_⟩
    rw [hc t (by omega)]
    simp only [List.getD_eq_getElem?_getD]
    rw [List.getElem?_take_of_lt ht]
theorem rd_drop {B : Nat} {w : World} {b off n : Nat} {zs : List Int} (h : Rd B w (some ⟨b, off, none⟩) n zs) (m : Nat) (hm : m ≤ n) : Rd B w (some ⟨b, off + m, none⟩) (n - m) (zs.drop m) := by
  obtain ⟨h1, h2, h3⟩ := h
  refine ⟨by simp; omega, Pl.isB_drop h2 _, ?_⟩
  rcases h3 with h3 | ⟨b', off', e, hb, hc⟩
  · left; omega
  · right
    cases e
    refine ⟨b, off + m, rfl, hb, fun t ht => ?_⟩
    rw [Nat.add_assoc, hc (m + t) (by omega)]
    simp only [List.getD_eq_getElem?_getD, List.getElem?_drop]

set_option maxRecDepth 100000 in
set_option maxHeartbeats 2000000 in
theorem HasPrefix_any {B B2 : Nat} {w : World} {b off n c : Nat} {g : Nat} {zs ys : List Int} (h1 : Rd B w (some ⟨b, off, none⟩) n zs) (hc : n ≤ c) (h2 : Rd B2 w (some ⟨g, 0, none⟩) 4 ys) : Calls Try.prog 14 #[.slice (some ⟨b, off, none⟩) n c, .slice (some ⟨g, 0, none⟩) 4 4] w fun e w' => e = .returned (.bool (decide (zs.take 4 = ys))) ∧ w' = w := by
  by_cases q : n < 4
  · have e : decide (zs.take 4 = ys) = false := by
      rw [decide_eq_false_iff_not]
      intro z
      have := congrArg List.length z
      rw [List.length_take, h1.1, h2.1] at this
      omega
    rw [e]
    have q' : ¬ (4 : Int) ≤ (n : Int) := by omega
    go_enter Try.func14, Try.ntmps14
    go_wp2
    go_ret
    exact ⟨rfl, rfl⟩
  · have HE := hid (Equal_any c 4 (rd_take h1 4 (by omega)) h2)
    have q' : (4 : Int) ≤ (n : Int) := by omega
    have q2 : (4 : Int) ≤ (c : Int) := by omega
    generalize decide (zs.take 4 = ys) = bb at *
    clear h1 h2
    go_enter Try.func14, Try.ntmps14
    go_wp2_with fail
    refine Calls.mono HE.out ?_
    rintro e w1 ⟨rfl, rfl⟩
    cases bb <;> (go_wp2; go_ret; exact ⟨rfl, rfl⟩)

theorem pack4 (n : Int) : packZ [(4, n)] = Pl.dig n 4 := by simp [packZ]
set_option maxRecDepth 100000 in
set_option maxHeartbeats 2000000 in
theorem packed_any (n : Int) (h0 : 0 ≤ n) (h1 : n < 4294967296) (w : World) : Calls Try.prog 16 #[.int .i64 n, .int .i64 4] w fun e w' => ∃ g, e = .returned (.slice (some ⟨g, 0, none⟩) 4 4) ∧ w.heap.size ≤ g ∧ Blk .u8 5 w' g (Pl.dig n 4) ∧ Below w.heap.size w w' := by
  obtain ⟨W, hW⟩ : ∃ W, W = w.alloc (.cells #[.int .i64 4, .int .i64 n] 69) := ⟨_, rfl⟩
  have hb : Below w.heap.size w W := by rw [hW]; exact (Below.refl _ _).alloc (Nat.le_refl _) _
  have zW : W.heap.size = w.heap.size + 1 := by rw [hW]; simp
  have c0 := cell_al hW 0 _ rfl
  have c1 := cell_al hW 1 _ rfl
  have hF : RdF W.heap.size W (some ⟨w.heap.size, 0, none⟩) 1 [(4, n)] := ⟨rfl, fun f hf => by simp at hf; subst hf; exact ⟨by show -9223372036854775808 ≤ n; omega, by show n ≤ 9223372036854775807; omega⟩, .inr ⟨_, 0, rfl, by omega, fun t ht => by
    obtain rfl : t = 0 := by omega
    exact ⟨c0, c1⟩⟩⟩
  have hok : okF [(4, n)] := by
    intro f hf
    simp at hf
    subst hf
    show chk 4 n = 0
    unfold chk
    rw [if_neg (by decide), if_neg (by simp; omega)]
  have HP := hid (Pack_ok (some ⟨w.heap.size, 0, none⟩) 1 1 [(4, n)] W (by decide) hF hok)
  rw [pack4, Pl.length_dig] at HP
  have HB := hid hb
  have HW := hid hW
  clear hb hW zW c0 c1 hF hok
  go_enter Try.func16, Try.ntmps16
  go_wp2_with fail
  rw [← HW.out]
  refine Calls.mono HP.out ?_
  rintro e w2 ⟨g, rfl, hg, hB, b2⟩
  have HE := hid (And.intro (Nat.le_trans HB.out.size hg) (And.intro hB (HB.out.trans (b2.mono HB.out.size))))
  clear hg hB b2 HP HW
  go_wp2
  go_ret
  exact ⟨g, rfl, HE.out⟩

end Go.Proofs.Ytahaehjmnafhbaa
