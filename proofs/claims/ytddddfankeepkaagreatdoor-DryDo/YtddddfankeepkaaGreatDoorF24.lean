import Derived.Test.YtddddfankeepkaaGreatDoorF03
import Derived.Test.YtddddfankeepkaaGreatDoorF18
namespace Go.Proofs.YtddddfankeepkaaGreatDoor
open Go.RowKit
structure PO where
 k : Int
 nm : ByteArray
 ot : ByteArray
 fr : Int
 tt : Int
 da : List Int
theorem info5 : (Tryz.prog.info? 5).map (fun i => (i.zero, i.size, i.bytes)) = some (some (.int .u8 0), 1, 1) := by kernel_rfl
def Rd (B : Nat) (w : World) (a : Option Addr) (n : Nat) (zs : List Int) : Prop :=
 zs.length = n ∧ Pl.isB zs ∧ (n = 0 ∨ ∃ b off, a = some ⟨b, off, none⟩ ∧ b < B ∧ ∀ t, t < n → w.cell? ⟨b, off + t, none⟩ = some (.int .u8 (zs.getD t 0)))
theorem Rd.below {B : Nat} {w w' : World} {a : Option Addr} {n : Nat} {zs : List Int} (h : Rd B w a n zs) (hb : Below B w w') : Rd B w' a n zs := by
 obtain ⟨h1, h2, h3⟩ := h
 refine ⟨h1, h2, ?_⟩
 rcases h3 with h3 | ⟨b, off, rfl, hlt, hc⟩
 ·exact .inl h3
 ·exact .inr ⟨b, off, rfl, hlt, fun t ht => (hb.cell (by exact hlt)).trans (hc t ht)⟩
def Ow (B : Nat) (w : World) (v : Value) (zs : List Int) : Prop := w.ownsRow B 5 1 v zs.length (zs.map (Value.int .u8))
structure okO (o : PO) : Prop where
 k0 : -9223372036854775808 ≤ o.k
 k1 : o.k ≤ 9223372036854775807
 f0 : -9223372036854775808 ≤ o.fr
 f1 : o.fr ≤ 9223372036854775807
 t0 : -9223372036854775808 ≤ o.tt
 t1 : o.tt ≤ 9223372036854775807
 nm : o.nm.size ≤ 16777216
 ot : o.ot.size ≤ 16777216
 da : o.da.length ≤ 16777216
def cells6 (o : PO) (v : Value) : List Value := [.int .i64 o.k, .string o.nm, .string o.ot, .int .i64 o.fr, .int .i64 o.tt, v]
def flatO : List PO → List Value → List Value
 | o :: os, v :: vs => cells6 o v ++ flatO os vs
 | _, _ => []
structure OwL (B : Nat) (w : World) (v : Value) (os : List PO) (vs : List Value) : Prop where
 len : vs.length = os.length
 row : w.ownsRow B 42 6 v os.length (flatO os vs)
 dat : ∀ i (h : i < os.length), Ow B w (vs[i]'(by omega)) os[i].da
 apart : ∀ i j (hi : i < j) (hj : j < vs.length) g, (vs[i]'(by omega)).ownBlock = some g → vs[j].ownBlock ≠ some g
theorem OwL.nil (B : Nat) (w : World) : OwL B w (.slice none 0 0) [] [] := ⟨rfl, ⟨rfl, .inl ⟨rfl, rfl⟩⟩, fun i h => by simp at h, fun i j hi hj => by simp at hj⟩
end Go.Proofs.YtddddfankeepkaaGreatDoor
