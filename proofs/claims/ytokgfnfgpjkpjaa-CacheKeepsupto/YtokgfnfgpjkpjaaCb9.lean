/-
  CacheReads: what an act writes; Write of any bytes.
-/
import Derived.Test.YtokgfnfgpjkpjaaCb8
namespace Go.Proofs.Ytokgfnfgpjkpjaa
open Go.RowKit

/-- what an act writes -/
def dataZ (fi : Int) (zs : List Int) : List Int := if zs = [] then blkZ fi else zs
/-- bytes that lie below B, or from S on -/
def RdS (B S : Nat) (w : World) (a : Option Addr) (n : Nat) (zs : List Int) : Prop :=
  zs.length = n ∧ Pl.isB zs ∧ (n = 0 ∨ ∃ b off, a = some ⟨b, off, none⟩ ∧ b < w.heap.size ∧ (b < B ∨ S ≤ b) ∧ ∀ t, t < n → w.cell? ⟨b, off + t, none⟩ = some (.int .u8 (zs.getD t 0)))
theorem RdS.rdn {B S : Nat} {w : World} {a : Option Addr} {n : Nat} {zs : List Int} (h : RdS B S w a n zs) {X : Nat → Prop} (hX : ∀ k, X k → B ≤ k ∧ k < S) : RdN X w a n zs := by
  obtain ⟨h1, h2, h3⟩ := h
  refine ⟨h1, h2, ?_⟩
  rcases h3 with h3 | ⟨b, off, rfl, hlt, hbs, hc⟩
  · exact .inl h3
  · exact .inr ⟨b, off, rfl, hlt, fun q => by have := hX b q; omega, hc⟩
set_option maxRecDepth 100000 in
theorem data_any {B : Nat} {w : World} (hB : B ≤ w.heap.size) (wh kd at_ fi : Int) {a : Option Addr} {n : Nat} (c : Nat) {zs : List Int} (hR : Rd B w a n zs) :
    Calls Try.prog 14 #[cactV wh kd at_ fi (.slice a n c)] w fun e w' => ∃ al cp, e = .returned (.slice al (dataZ fi zs).length cp) ∧ RdS B w.heap.size w' al (dataZ fi zs).length (dataZ fi zs) ∧ Below w.heap.size w w' := by
  unfold cactV
  obtain ⟨W, hW⟩ : ∃ W, W = w.alloc (.cells #[.int .i64 wh, .int .i64 kd, .int .i64 at_, .int .i64 fi, .slice a n c] 42) := ⟨_, rfl⟩
  have bW : Below w.heap.size w W := by rw [hW]; exact (Below.refl _ _).alloc (Nat.le_refl _) _
  by_cases h0 : n = 0
  · have hz : zs = [] := List.length_eq_zero_iff.1 (by rw [hR.1]; exact h0)
    have hd : dataZ fi zs = blkZ fi := by unfold dataZ; rw [if_pos hz]
    rw [hd, length_blkZ]
    have HB := hid (Block_any fi W)
    subst h0
    clear hR
    go_enter Try.func14, Try.ntmps14
    go_wp2_with fail
    rw [← hW]
    refine Calls.mono HB.out ?_
    rintro q w1 ⟨g, rfl, g1, k1, b1⟩
    have FIN : Hid (RdS B w.heap.size w1 (some ⟨g, 0, none⟩) 512 (blkZ fi) ∧ Below w.heap.size w w1) :=
      ⟨⟨length_blkZ fi, isB_blkZ fi, .inr ⟨g, 0, rfl, k1.lt, .inr (Nat.le_trans bW.size g1), fun t ht => by rw [Nat.zero_add]; exact k1.cell t (by rw [length_blkZ]; exact ht)⟩⟩, bW.trans (b1.mono bW.size)⟩
    clear k1 b1 HB
    go_wp2
    go_ret
    exact ⟨_, _, rfl, FIN.out.1, FIN.out.2⟩
  · have hz : ¬ zs = [] := fun e => h0 (by rw [← hR.1, e]; rfl)
    have hd : dataZ fi zs = zs := by unfold dataZ; rw [if_neg hz]
    have hl := hR.1
    rw [hd, hl]
    have FIN : Hid (RdS B w.heap.size W a n zs ∧ Below w.heap.size w W) := by
      obtain ⟨r1, r2, r3⟩ := hR.below (bW.mono hB)
      refine ⟨⟨r1, r2, ?_⟩, bW⟩
      rcases r3 with r3 | ⟨b, off, rfl, hlt, hc⟩
      · exact .inl r3
      · exact .inr ⟨b, off, rfl, by have := bW.size; omega, .inl hlt, hc⟩
    have hn0 : (0 : Int) < (n : Int) := by omega
    clear hR hd hz hl bW
    go_enter Try.func14, Try.ntmps14
    go_wp2
    go_ret
    rw [← hW]
    exact ⟨_, _, rfl, FIN.out.1, FIN.out.2⟩
theorem CWrite_any {X Y : Nat → Prop} {w : World} {c p room : Nat} {hi mi : Int} {l : List (Int × List Int)} {img : List Int} {puts : List (Nat × List Int)} {fu : Int} {off : Bool} {nb : Nat} (h : CD X Y w c p room hi mi l img puts fu off nb) (hl : puts.length ≤ 1073741823) (x : Int) (ad : Option Addr) (n cp : Nat) (zs : List Int) (hR : RdN X w ad n zs) :
    Calls Try.prog 10 #[.pointer (some ⟨c, 0, none⟩), .int .i64 x, .slice ad n cp] w fun e w' => e = .returned (.int .i64 (writeC off fu nb x n)) ∧ (∃ X' Y', CD X' Y' w' c p room hi mi (writeL room l off fu nb x zs) img (if writeC off fu nb x n = 0 then puts ++ [(x.toNat, zs)] else puts) (writeF off fu nb x n) (writeO off fu nb x n) nb ∧ Grown X Y X' Y' w) ∧ But (fun k => X k ∨ Y k) w w' := by
  have hlen := hR.1
  have eL : writeL room l off fu nb x zs = if writeC off fu nb x n = 0 then holdL room l x zs else l := by unfold writeL; rw [hlen]
  rw [eL]
  by_cases hz : writeC off fu nb x n = 0
  · obtain ⟨hof, hx0, hx1, hn⟩ : off = false ∧ 0 ≤ x ∧ x < nb ∧ n = 512 := by
      unfold writeC at hz
      split at hz
      · omega
      · split at hz
        · omega
        · split at hz
          · omega
          · exact ⟨by simpa using ‹¬ off = true›, by omega, by omega, by omega⟩
    have hF : writeF off fu nb x n = burnF fu := by unfold writeF; rw [if_pos ⟨hof, by omega, hn⟩]
    have hO : writeO off fu nb x n = burnO fu off := by unfold writeO; rw [if_pos ⟨hof, by omega, hn⟩]
    rw [if_pos hz, if_pos hz, hF, hO, hz]
    exact CWrite_ok h hl x ad n cp zs hR hz
  · rw [if_neg hz, if_neg hz]
    exact CWrite_bad h hl x ad n cp zs hR hz
theorem Good.wrote {l : List (Int × List Int)} {img : List Int} {puts : List (Nat × List Int)} {nb : Nat} (h : Good l img puts nb) (room : Nat) (off : Bool) (fu : Int) (x : Int) (zs : List Int) : Good (writeL room l off fu nb x zs) img (if writeC off fu nb x zs.length = 0 then puts ++ [(x.toNat, zs)] else puts) nb := by
  unfold writeL
  by_cases hz : writeC off fu nb x zs.length = 0
  · rw [if_pos hz, if_pos hz]
    have hx : 0 ≤ x ∧ x < nb := by
      unfold writeC at hz
      split at hz
      · omega
      · split at hz
        · omega
        · exact ⟨by omega, by omega⟩
    exact h.write room hx.1 hx.2 zs
  · rw [if_neg hz, if_neg hz]
    exact h

end Go.Proofs.Ytokgfnfgpjkpjaa
