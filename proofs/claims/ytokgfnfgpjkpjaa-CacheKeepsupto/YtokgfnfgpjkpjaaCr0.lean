/-
  Block: a block told by its number. size. Jobs.
-/
import Derived.Test.YtokgfnfgpjkpjaaDk9
import Derived.Laws.BitsLemmas
namespace Go.Proofs.Ytokgfnfgpjkpjaa
open Go.RowKit

def blkV (x : Int) (k : Nat) : Int := wrap64 (wrap64 (x + wrap64 (x / 256 * 3)) + wrap64 ((k : Int) * wrap64 (1 + x.tmod 5))) % 256
def blkZ (x : Int) : List Int := (List.range 512).map (blkV x)
theorem length_blkZ (x : Int) : (blkZ x).length = 512 := by simp [blkZ]
theorem isB_blkZ (x : Int) : Pl.isB (blkZ x) := by
  intro z hz
  simp only [blkZ, List.mem_map] at hz
  obtain ⟨i, _, rfl⟩ := hz
  unfold blkV
  omega
theorem blkZ_getD {x : Int} {k : Nat} (h : k < 512) : (blkZ x).getD k 0 = blkV x k := by simp [blkZ, h]
set_option maxRecDepth 100000 in
set_option maxHeartbeats 2000000 in
theorem Block_any (x : Int) (w : World) : Calls Try.prog 11 #[.int .i64 x] w fun e w' => ∃ g, e = .returned (.slice (some ⟨g, 0, none⟩) 512 512) ∧ w.heap.size ≤ g ∧ Blk .u8 5 w' g (blkZ x) ∧ Below w.heap.size w w' := by
  have hmk := make_u8 512 (by omega)
  have hB0 : Hid (Blk .u8 5 (w.alloc (.cells ((zeros 512).map (Value.int .u8)).toArray 5)) w.heap.size (zeros 512)) := Blk.new w _
  have hb0 : Hid (Below w.heap.size w (w.alloc (.cells ((zeros 512).map (Value.int .u8)).toArray 5))) := (Below.refl _ _).alloc (Nat.le_refl _) _
  have hmk' : ∀ u : World, (Instr.makeSlice 29 (.int .i64 512) (.int .i64 512)).run Try.prog u = .ok (.slice (some ⟨u.heap.size, 0, none⟩) 512 512) (u.alloc (.cells ((zeros 512).map (Value.int .u8)).toArray 5)) := hmk
  clear hmk
  go_enter Try.func11, Try.ntmps11
  go_wp2_with fail
  generalize hwm : w.alloc (.cells ((zeros 512).map (Value.int .u8)).toArray 5) = wm at *
  clear hwm hmk'
  go_loopw [4] (fun i wt => ∃ k : Nat, ∃ ys, k ≤ 512 ∧ i = .int .i64 (k : Int) ∧ Blk .u8 5 wt w.heap.size ys ∧ ys.length = 512 ∧ ys.take k = (blkZ x).take k ∧ Below w.heap.size w wt) (fun i _ => 512 - (intOf i).toNat)
  case atStart => exact ⟨0, _, Nat.zero_le _, rfl, hB0.out, length_zeros _, rfl, hb0.out⟩
  case round =>
    clear hB0 hb0
    obtain ⟨k, ys, hk, rfl, hB, hl, hbs, hbt⟩ := hrel
    by_cases hkn : k < 512
    · have hkn' : (k : Int) < 512 := by omega
      have cB := hB.cell k (by omega)
      have fB := hB.frozen k
      have HB := hid hB
      have Hb := hid hbt
      have Hl := hid (And.intro hl (take_set (by omega) (by rw [length_blkZ]; omega) hbs (blkZ_getD (x := x) hkn).symm))
      clear hB hbt hl hbs
      go_wp2_with fail
      obtain ⟨V, hV⟩ : ∃ V : Int, V = wrap64 (wrap64 (x + wrap64 (x / 256 * 3)) + wrap64 ((k : Int) * wrap64 (1 + x.tmod 5))) % 256 := ⟨_, rfl⟩
      have hV2 : blkV x k = V := hV.symm
      rw [← hV]
      rw [hV2] at Hl
      clear hV hV2
      go_roundw
      case rel =>
        exact ⟨k + 1, ys.set k V, by omega, by go_num, HB.out.set k V, by rw [List.length_set]; exact Hl.out.1, Hl.out.2, Hb.out.setCell (Nat.le_refl _) _⟩
      case measure => simp [intOf]; omega
    · obtain rfl : k = 512 := by omega
      have e : ys = blkZ x := by
        rw [List.take_of_length_le (by omega), List.take_of_length_le (by rw [length_blkZ]; omega)] at hbs
        exact hbs
      have HB := hid (e ▸ hB)
      have Hb := hid hbt
      clear hB hbt hl hbs e
      go_wp2
      go_ret
      exact ⟨w.heap.size, rfl, Nat.le_refl _, HB.out, Hb.out⟩

/-! ### numbers brought into bounds -/
theorem and62 (n : Int) : bits .and .i64 n 4611686018427387903 = n % 4611686018427387904 := by
  have h127 : (BitVec.ofInt 64 4611686018427387903).toNat = 2 ^ 62 - 1 := by decide
  have key : (BitVec.ofInt 64 n &&& BitVec.ofInt 64 4611686018427387903).toNat = (n % ((2 ^ 64 : Nat) : Int)).toNat % 2 ^ 62 := by
    rw [BitVec.toNat_and, BitVec.toNat_ofInt, h127, Nat.and_two_pow_sub_one_eq_mod]
  show IntKind.i64.wrap ((BitVec.ofInt 64 n &&& BitVec.ofInt 64 4611686018427387903).toNat : Nat) = n % 4611686018427387904
  rw [key, IntKind.wrap_i64]
  omega
/-- n brought below m -/
def into (m : Nat) (n : Int) : Nat := ((n % 4611686018427387904).tmod m).toNat
theorem into_lt {m : Nat} (n : Int) (h : 0 < m) : into m n < m := by
  have h1 : 0 ≤ n % 4611686018427387904 := by omega
  have h2 := Int.tmod_lt_of_pos (n % 4611686018427387904) (b := (m : Int)) (by omega)
  have h3 := Int.tmod_nonneg (m : Int) h1
  unfold into
  omega
theorem into_eq (m : Nat) (n : Int) : (bits .and .i64 n 4611686018427387903).tmod (m : Int) = (into m n : Int) := by
  have h1 : 0 ≤ n % 4611686018427387904 := by omega
  have h3 := Int.tmod_nonneg (m : Int) h1
  rw [and62]
  unfold into
  omega
theorem and62_pos (n : Int) : 0 ≤ bits .and .i64 n 4611686018427387903 ∧ bits .and .i64 n 4611686018427387903 < 4611686018427387904 := by rw [and62]; omega

/-- from 1 to 9 -/
def sizeN (b : Int) : Nat := 1 + into 9 b
theorem sizeN_lo (b : Int) : 1 ≤ sizeN b := by unfold sizeN; omega
theorem sizeN_hi (b : Int) : sizeN b ≤ 9 := by have := into_lt (m := 9) b (by omega); unfold sizeN; omega
/-! ### jobs -/
structure JobD where
  at_ : Int
  fi : Int
  fl : Bool
structure JobsIn (B : Nat) (w : World) (a : Option Addr) (n : Nat) (L : List JobD) : Prop where
  len : L.length = n
  cel : n = 0 ∨ ∃ b o, a = some ⟨b, o, none⟩ ∧ b < B ∧ ∀ i d, L[i]? = some d → w.cell? ⟨b, o + i * 3, none⟩ = some (.int .i64 d.at_) ∧ w.cell? ⟨b, o + i * 3 + 1, none⟩ = some (.int .i64 d.fi) ∧ w.cell? ⟨b, o + i * 3 + 2, none⟩ = some (.bool d.fl)
theorem JobsIn.below {B : Nat} {w w' : World} {a : Option Addr} {n : Nat} {L : List JobD} (h : JobsIn B w a n L) (hb : Below B w w') : JobsIn B w' a n L := by
  refine ⟨h.len, h.cel.imp id (fun ⟨b, o, e, l, q⟩ => ⟨b, o, e, l, fun i d hi => ?_⟩)⟩
  obtain ⟨q0, q1, q2⟩ := q i d hi
  exact ⟨(hb.cell (p := ⟨b, _, none⟩) l).trans q0, (hb.cell (p := ⟨b, _, none⟩) l).trans q1, (hb.cell (p := ⟨b, _, none⟩) l).trans q2⟩
theorem JobsIn.mono {B B' : Nat} {w : World} {a : Option Addr} {n : Nat} {L : List JobD} (h : JobsIn B w a n L) (hb : B ≤ B') : JobsIn B' w a n L :=
  ⟨h.len, h.cel.imp id (fun ⟨b, o, e, l, q⟩ => ⟨b, o, e, Nat.lt_of_lt_of_le l hb, q⟩)⟩
theorem JobsIn.take {B : Nat} {w : World} {a : Option Addr} {n : Nat} {L : List JobD} (h : JobsIn B w a n L) {m : Nat} (hm : m ≤ n) : JobsIn B w a m (L.take m) := by
  have := h.len
  refine ⟨by simp; omega, ?_⟩
  by_cases h0 : m = 0
  · exact .inl h0
  · obtain ⟨b, o, e, l, q⟩ := h.cel.resolve_left (by omega)
    exact .inr ⟨b, o, e, l, fun i d hi => q i d (by
      rw [List.getElem?_take] at hi
      split at hi
      · exact hi
      · cases hi)⟩
/-- what a job does -/
def jstep (nb : Nat) (s : List Int × List (Nat × List Int)) (d : JobD) : List Int × List (Nat × List Int) := if d.fl then (flushZ s.1 s.2, []) else (s.1, s.2 ++ [(into nb d.at_, blkZ d.fi)])
def jobsZ (nb : Nat) (L : List JobD) : List Int × List (Nat × List Int) := L.foldl (jstep nb) (zeros (512 * nb), [])
theorem jobsZ_snoc (nb : Nat) (L : List JobD) (k : Nat) (d : JobD) (h : L[k]? = some d) : jobsZ nb (L.take (k + 1)) = jstep nb (jobsZ nb (L.take k)) d := by
  obtain ⟨h1, h2⟩ := List.getElem?_eq_some_iff.1 h
  unfold jobsZ
  rw [fold_snoc _ _ _ h1, h2]
theorem jobsZ_len (nb : Nat) (L : List JobD) : (jobsZ nb L).2.length ≤ L.length := by
  have : ∀ (L : List JobD) s, (L.foldl (jstep nb) s).2.length ≤ s.2.length + L.length := by
    intro L
    induction L with
    | nil => intro s; simp
    | cons d L ih =>
      intro s
      have := ih (jstep nb s d)
      have h2 : (jstep nb s d).2.length ≤ s.2.length + 1 := by
        unfold jstep
        split <;> simp
      simp only [List.foldl_cons, List.length_cons]
      omega
  have := this L (zeros (512 * nb), [])
  simp only [List.length_nil, Nat.zero_add] at this
  exact this
theorem Dk.cut {X : Nat → Prop} {w : World} {p : Nat} {img : List Int} {puts : List (Nat × List Int)} {fu : Int} {off : Bool} {nb : Nat} (h : Dk X w p img puts fu off nb) : Dk (fun x => X x ∧ x < w.heap.size) w p img puts fu off nb := by
  obtain ⟨ds, gL, cL, pv, mp, e, h⟩ := h
  exact ⟨ds, gL, cL, pv, mp, e, ⟨h.blk, h.own, h.isb, h.lo, h.hi, h.row, fun d hd => ⟨(h.dat d hd).1, (h.dat d hd).2.1, (h.dat d hd).2.2.1, ⟨(h.dat d hd).2.2.2.1, (h.dat d hd).1.lt⟩, (h.dat d hd).2.2.2.2⟩, h.map, ⟨h.xp, h.blk.lt⟩, ⟨h.xl, h.own.lt⟩, ⟨h.xm, h.map.lt⟩, fun g e => ⟨h.xr g e, (World.ownsRow.lt h.row g e).2⟩, h.fus⟩⟩
theorem Dk.facts {X : Nat → Prop} {w : World} {p : Nat} {img : List Int} {puts : List (Nat × List Int)} {fu : Int} {off : Bool} {nb : Nat} (h : Dk X w p img puts fu off nb) : Pl.isB img ∧ img.length = 512 * nb ∧ (∀ q ∈ puts, Pl.isB q.2) ∧ nb ≤ 524288 := by
  obtain ⟨ds, gL, cL, pv, mp, e, h⟩ := h
  refine ⟨h.isb, h.own.len, fun q hq => ?_, h.hi⟩
  rw [← e] at hq
  obtain ⟨d, hd, rfl⟩ := List.mem_map.1 hq
  exact (h.dat d hd).2.1

end Go.Proofs.Ytokgfnfgpjkpjaa
