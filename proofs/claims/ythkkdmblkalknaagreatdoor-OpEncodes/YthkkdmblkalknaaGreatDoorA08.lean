import Derived.Test.YthkkdmblkalknaaGreatDoorA05
import Derived.Test.YthkkdmblkalknaaGreatDoorA07
/-
  Operations in memory; checkAll, Program.
-/
namespace Go.Proofs.YthkkdmblkalknaaGreatDoor
open Go.RowKit

/-- its numbers are ints, its texts not too long -/
structure okO (o : PO) : Prop where
  k0 : -9223372036854775808 ≤ o.k
  k1 : o.k ≤ 9223372036854775807
  f0 : -9223372036854775808 ≤ o.fr
  f1 : o.fr ≤ 9223372036854775807
  t0 : -9223372036854775808 ≤ o.to
  t1 : o.to ≤ 9223372036854775807
  nm : o.nm.size ≤ 16777216
  ot : o.ot.size ≤ 16777216
  da : o.da.length ≤ 16777216
/-- an operation at a place; a, c: where its data lie -/
structure OpC (w : World) (b off : Nat) (o : PO) (a : Option Addr) (c : Nat) : Prop where
  o0 : w.cell? ⟨b, off, none⟩ = some (.int .i64 o.k)
  o1 : w.cell? ⟨b, off + 1, none⟩ = some (.string o.nm)
  o2 : w.cell? ⟨b, off + 2, none⟩ = some (.string o.ot)
  o3 : w.cell? ⟨b, off + 3, none⟩ = some (.int .i64 o.fr)
  o4 : w.cell? ⟨b, off + 4, none⟩ = some (.int .i64 o.to)
  o5 : w.cell? ⟨b, off + 5, none⟩ = some (.slice a o.da.length c)
def OpAt (B : Nat) (w : World) (b off : Nat) (o : PO) : Prop := ∃ a c, OpC w b off o a c ∧ Rd B w a o.da.length o.da ∧ (a = none → c = 0)
/-- operations that are read: at addresses below B -/
def RdO (B : Nat) (w : World) (x : Option Addr) (os : List PO) : Prop :=
  (∀ o ∈ os, okO o) ∧ (os = [] ∨ ∃ b off, x = some ⟨b, off, none⟩ ∧ b < B ∧ ∀ t (h : t < os.length), OpAt B w b (off + t * 6) os[t])
theorem OpC.keep {w w' : World} {b off : Nat} {o : PO} {a : Option Addr} {c : Nat} (h : OpC w b off o a c) (hb : w'.heap[b]? = w.heap[b]?) : OpC w' b off o a c :=
  ⟨(World.cell?_of_block (a := ⟨b, _, none⟩) hb).trans h.o0, (World.cell?_of_block (a := ⟨b, _, none⟩) hb).trans h.o1, (World.cell?_of_block (a := ⟨b, _, none⟩) hb).trans h.o2, (World.cell?_of_block (a := ⟨b, _, none⟩) hb).trans h.o3, (World.cell?_of_block (a := ⟨b, _, none⟩) hb).trans h.o4, (World.cell?_of_block (a := ⟨b, _, none⟩) hb).trans h.o5⟩
theorem OpAt.below {B : Nat} {w w' : World} {b off : Nat} {o : PO} (h : OpAt B w b off o) (hb : Below B w w') (hl : b < B) : OpAt B w' b off o := by
  obtain ⟨a, c, h1, h2, h3⟩ := h
  exact ⟨a, c, h1.keep (hb.block b hl), h2.below hb, h3⟩
theorem RdO.below {B : Nat} {w w' : World} {x : Option Addr} {os : List PO} (h : RdO B w x os) (hb : Below B w w') : RdO B w' x os := by
  refine ⟨h.1, ?_⟩
  rcases h.2 with e | ⟨b, off, rfl, hl, hc⟩
  · exact .inl e
  · exact .inr ⟨b, off, rfl, hl, fun t ht => (hc t ht).below hb hl⟩
theorem RdO.mono {B B' : Nat} {w : World} {x : Option Addr} {os : List PO} (h : RdO B w x os) (hB : B ≤ B') : RdO B' w x os := by
  refine ⟨h.1, ?_⟩
  rcases h.2 with e | ⟨b, off, rfl, hl, hc⟩
  · exact .inl e
  · exact .inr ⟨b, off, rfl, by omega, fun t ht => by
      obtain ⟨a, c, h1, h2, h3⟩ := hc t ht
      exact ⟨a, c, h1, h2.mono hB, h3⟩⟩

/-- the first error of Check -/
def ckA : List PO → Int
  | [] => 0
  | o :: r => if o.ck = 0 then ckA r else o.ck
theorem ckA_hit {os : List PO} {t : Nat} (ht : t < os.length) (h : ∀ j (hj : j < t), (os[j]'(by omega)).ck = 0) (hn : os[t].ck ≠ 0) : ckA os = os[t].ck := by
  induction os generalizing t with
  | nil => simp at ht
  | cons o r ih =>
    cases t with
    | zero => unfold ckA; rw [if_neg (by simpa using hn)]; rfl
    | succ t =>
      have h0 := h 0 (by omega)
      unfold ckA
      rw [if_pos (by simpa using h0), ih (t := t) (by simpa using ht) (fun j hj => by have := h (j + 1) (by omega); simpa using this) (by simpa using hn)]
      rfl
theorem ckA_all {os : List PO} (h : ∀ j (hj : j < os.length), (os[j]'hj).ck = 0) : ckA os = 0 := by
  induction os with
  | nil => rfl
  | cons o r ih =>
    have h0 := h 0 (by simp)
    unfold ckA
    rw [if_pos (by simpa using h0), ih (fun j hj => by have := h (j + 1) (by simpa using hj); simpa using this)]
theorem ckA_zero {os : List PO} (h : ckA os = 0) : ∀ o ∈ os, o.ck = 0 := by
  induction os with
  | nil => intro o ho; cases ho
  | cons o r ih =>
    unfold ckA at h
    split at h
    · rename_i h0
      intro p hp
      rcases List.mem_cons.1 hp with rfl | hp
      · exact h0
      · exact ih h p hp
    · rename_i h0; exact absurd h h0

set_option maxRecDepth 100000 in
set_option maxHeartbeats 4000000 in
theorem checkAll_any (x : Option Addr) (c : Nat) (os : List PO) (w : World) (hl : os.length ≤ 16777216) (hG : GT w) (hR : RdO w.heap.size w x os) :
    Calls Tryz.prog 38 #[.slice x os.length c] w fun e w' => e = .returned (.int .i64 (ckA os)) ∧ Below w.heap.size w w' := by
  have HG := hid hG
  have HR := hid hR
  clear hG hR
  go_enter Tryz.func38, Tryz.ntmps38
  go_wp2_with fail
  go_loopw [8] (fun i wr => ∃ r : Nat, r ≤ os.length ∧ i = .int .i64 (r : Int) ∧ Below w.heap.size w wr ∧ ∀ j (hj : j < os.length), j < r → (os[j]'hj).ck = 0) (fun i _ => os.length - (intOf i).toNat)
  case atStart => exact ⟨0, Nat.zero_le _, rfl, Below.refl _ _, fun j _ hj => by omega⟩
  case round =>
    obtain ⟨r, hr, rfl, hb, hall⟩ := hrel
    by_cases hlt : r < os.length
    · have hR2 := HR.out.below hb
      have hok := hR2.1 (os[r]'hlt) (List.getElem_mem hlt)
      obtain ⟨b, off, rfl, hbl, hc⟩ := hR2.2.resolve_left (fun e => by rw [e] at hlt; simp at hlt)
      obtain ⟨a, cp, ⟨c0, c1, c2, c3, c4, c5⟩, _, _⟩ := hc r hlt
      have hcnd : ∀ h : (os[r]'hlt).ck ≠ 0, ckA os = (os[r]'hlt).ck := fun h => ckA_hit hlt (fun j hj => hall j (by omega) hj) h
      have HCN := hid hcnd
      have HAL := hid hall
      have HH := hid hb
      generalize hO : os[r]'hlt = o at *
      have HC := hid (fun W (hW : Below w.heap.size w W) => Check_any o.k o.nm o.ot o.fr o.to a o.da.length cp W (HG.out.next hW) hok.nm hok.ot hok.f0 hok.t1)
      change Hid (∀ W, _ → Calls Tryz.prog 10 _ W fun e w' => e = .returned (.int .i64 o.ck) ∧ _) at HC
      have HO := hid hO
      clear hc hR2 hcnd hall hb hok hO
      generalize hE : o.ck = E at *
      have HE := hid hE
      clear hE
      have HB1 := hid (HH.out.alloc (o := .cells #[.int .i64 o.k, .string o.nm, .string o.ot, .int .i64 o.fr, .int .i64 o.to, .slice a o.da.length cp] 29) HH.out.size)
      go_wp2_with fail
      refine (HC.out _ HB1.out).mono ?_
      rintro e w4 ⟨rfl, hb4⟩
      have HB := hid (HB1.out.trans (hb4.mono HB1.out.size))
      clear hb4 HB1 HC c0 c1 c2 c3 c4 c5
      by_cases hE0 : E = 0
      · subst hE0
        go_wp2
        go_roundw
        case rel => exact ⟨r + 1, by omega, by go_num, HB.out, fun j hj hjr => by
          by_cases e : j = r
          · subst e
            rw [HO.out]
            exact HE.out
          · exact HAL.out j hj (by omega)⟩
        case measure => simp [intOf]; omega
      · have q : (E != 0) = true := by simpa using hE0
        have HQ := hid (HCN.out hE0)
        clear hE0
        go_wp2
        go_ret
        exact ⟨by rw [HQ.out]; rfl, HB.out⟩
    · have HB := hid hb
      have HQ := hid (ckA_all fun j hj => hall j hj (by omega))
      clear hb hall
      go_wp2
      go_ret
      exact ⟨by rw [HQ.out]; rfl, HB.out⟩

/-- Program -/
def pgA : List PO → Int
  | [] => 0
  | o :: r => if o.k = 8 ∨ o.k = 11 then 163 else if o.ck = 0 then pgA r else o.ck
def prg (os : List PO) : Int := if 120 < os.length then 164 else pgA os
def pg1 (o : PO) : Int := if o.k = 8 ∨ o.k = 11 then 163 else o.ck
theorem pgA_cons (o : PO) (r : List PO) : pgA (o :: r) = if pg1 o = 0 then pgA r else pg1 o := by
  rw [pgA]
  unfold pg1
  split
  · rfl
  · rfl
theorem pgA_hit {os : List PO} {t : Nat} (ht : t < os.length) (h : ∀ j (hj : j < t), pg1 (os[j]'(by omega)) = 0) (hn : pg1 os[t] ≠ 0) : pgA os = pg1 os[t] := by
  induction os generalizing t with
  | nil => simp at ht
  | cons o r ih =>
    cases t with
    | zero => rw [pgA_cons, if_neg (by simpa using hn)]; rfl
    | succ t =>
      have h0 := h 0 (by omega)
      rw [pgA_cons, if_pos (by simpa using h0), ih (t := t) (by simpa using ht) (fun j hj => by have := h (j + 1) (by omega); simpa using this) (by simpa using hn)]
      rfl
theorem pgA_all {os : List PO} (h : ∀ j (hj : j < os.length), pg1 (os[j]'hj) = 0) : pgA os = 0 := by
  induction os with
  | nil => rfl
  | cons o r ih =>
    have h0 := h 0 (by simp)
    rw [pgA_cons, if_pos (by simpa using h0), ih (fun j hj => by have := h (j + 1) (by simpa using hj); simpa using this)]

set_option maxRecDepth 100000 in
set_option maxHeartbeats 4000000 in
theorem Program_any (x : Option Addr) (c : Nat) (os : List PO) (w : World) (hl : os.length ≤ 16777216) (hG : GT w) (hR : RdO w.heap.size w x os) :
    Calls Tryz.prog 31 #[.slice x os.length c] w fun e w' => e = .returned (.int .i64 (prg os)) ∧ Below w.heap.size w w' := by
  by_cases h120 : 120 < os.length
  · have e : prg os = 164 := if_pos h120
    rw [e]
    have q : (120 : Int) < (os.length : Int) := by omega
    clear hG hR
    go_enter Tryz.func31, Tryz.ntmps31
    go_wp2
    go_ret
    exact ⟨rfl, Below.refl _ _⟩
  have e : prg os = pgA os := if_neg h120
  rw [e]
  have q : ¬ (120 : Int) < (os.length : Int) := by omega
  have HG := hid hG
  have HR := hid hR
  clear hG hR e
  go_enter Tryz.func31, Tryz.ntmps31
  go_wp2_with fail
  go_loopw [11] (fun i wr => ∃ r : Nat, r ≤ os.length ∧ i = .int .i64 (r : Int) ∧ Below w.heap.size w wr ∧ ∀ j (hj : j < os.length), j < r → pg1 (os[j]'hj) = 0) (fun i _ => os.length - (intOf i).toNat)
  case atStart => exact ⟨0, Nat.zero_le _, rfl, Below.refl _ _, fun j _ hj => by omega⟩
  case round =>
    obtain ⟨r, hr, rfl, hb, hall⟩ := hrel
    by_cases hlt : r < os.length
    · have hR2 := HR.out.below hb
      have hok := hR2.1 (os[r]'hlt) (List.getElem_mem hlt)
      obtain ⟨b, off, rfl, hbl, hc⟩ := hR2.2.resolve_left (fun e => by rw [e] at hlt; simp at hlt)
      obtain ⟨a, cp, ⟨c0, c1, c2, c3, c4, c5⟩, _, _⟩ := hc r hlt
      have hcnd : ∀ h : pg1 (os[r]'hlt) ≠ 0, pgA os = pg1 (os[r]'hlt) := fun h => pgA_hit hlt (fun j hj => hall j (by omega) hj) h
      have HCN := hid hcnd
      have HAL := hid hall
      have HH := hid hb
      generalize hO : os[r]'hlt = o at *
      have HC := hid (fun W (hW : Below w.heap.size w W) => Check_any o.k o.nm o.ot o.fr o.to a o.da.length cp W (HG.out.next hW) hok.nm hok.ot hok.f0 hok.t1)
      change Hid (∀ W, _ → Calls Tryz.prog 10 _ W fun e w' => e = .returned (.int .i64 o.ck) ∧ _) at HC
      have HO := hid hO
      clear hc hR2 hcnd hall hb hok hO
      have HB1 := hid (HH.out.alloc (o := .cells #[.int .i64 o.k, .string o.nm, .string o.ot, .int .i64 o.fr, .int .i64 o.to, .slice a o.da.length cp] 29) HH.out.size)
      by_cases h8 : o.k = 8
      · have HQ := hid (HCN.out (by unfold pg1; rw [if_pos (.inl h8)]; decide))
        have HP : Hid (pg1 o = 163) := by unfold pg1; exact if_pos (.inl h8)
        rw [h8] at c0
        clear h8
        go_wp2
        go_ret
        exact ⟨by rw [HQ.out, HP.out]; rfl, by first | exact HB1.out | exact HH.out.alloc HH.out.size _⟩
      by_cases h11 : o.k = 11
      · have HQ := hid (HCN.out (by unfold pg1; rw [if_pos (.inr h11)]; decide))
        have HP : Hid (pg1 o = 163) := by unfold pg1; exact if_pos (.inr h11)
        rw [h11] at c0
        clear h8 h11
        go_wp2
        go_ret
        exact ⟨by rw [HQ.out, HP.out]; rfl, by first | exact HB1.out | exact HH.out.alloc HH.out.size _⟩
      have HP : Hid (pg1 o = o.ck) := by unfold pg1; exact if_neg (by omega)
      have p8 : (o.k == 8) = false := by simpa using h8
      have p11 : (o.k == 11) = false := by simpa using h11
      rw [HP.out] at HCN
      clear h8 h11
      generalize hE : o.ck = E at *
      have HE := hid hE
      clear hE
      go_wp2_with fail
      refine (HC.out _ HB1.out).mono ?_
      rintro e w4 ⟨rfl, hb4⟩
      have HB := hid (HB1.out.trans (hb4.mono HB1.out.size))
      clear hb4 HB1 HC c0 c1 c2 c3 c4 c5
      by_cases hE0 : E = 0
      · subst hE0
        go_wp2
        go_roundw
        case rel => exact ⟨r + 1, by omega, by go_num, HB.out, fun j hj hjr => by
          by_cases e : j = r
          · subst e
            rw [HO.out]
            exact HP.out
          · exact HAL.out j hj (by omega)⟩
        case measure => simp [intOf]; omega
      · have q : (E != 0) = true := by simpa using hE0
        have HQ := hid (HCN.out hE0)
        clear hE0
        go_wp2
        go_ret
        exact ⟨by rw [HQ.out]; rfl, HB.out⟩
    · have HB := hid hb
      have HQ := hid (pgA_all fun j hj => hall j hj (by omega))
      clear hb hall
      go_wp2
      go_ret
      exact ⟨by rw [HQ.out]; rfl, HB.out⟩

end Go.Proofs.YthkkdmblkalknaaGreatDoor
/-
  op: operation (of a taker), in plain words; what it keeps.
-/
namespace Go.Proofs.YthkkdmblkalknaaGreatDoor
open Go.RowKit

def PO0 : PO := ⟨0, cE, cE, 0, 0, []⟩
/-- a word's field is taken -/
def stepW (q : PO × St) (x : ByteArray) : PO × St :=
  if x = cNM then ({ q.1 with nm := strOfNums (txG pt q.2).1 }, (txG pt q.2).2)
  else if x = cOT then ({ q.1 with ot := strOfNums (txG pt q.2).1 }, (txG pt q.2).2)
  else if x = cFR then ({ q.1 with fr := (nbG pt q.2 4).1 }, (nbG pt q.2 4).2)
  else if x = cTO then ({ q.1 with to := (nbG pt q.2 4).1 }, (nbG pt q.2 4).2)
  else if x = cDA then ({ q.1 with da := (pt q.2 512).1 }, (pt q.2 512).2)
  else q
def decW (ws : List ByteArray) (q : PO × St) : PO × St := ws.foldl stepW q
def kind1 (s : St) : PO × St := ({ PO0 with k := (nbG pt s 1).1 }, (nbG pt s 1).2)
def dec1 (s : St) : PO × St := decW (wordsOf (nbG pt s 1).1.toNat) (kind1 s)
/-- an operation is taken -/
def opP (s : St) : (PO × Int) × St :=
  if (nbG pt s 1).1 < 1 ∨ 11 < (nbG pt s 1).1 then ((PO0, 160), (nbG pt s 1).2)
  else if (dec1 s).2.2 = true then ((PO0, 161), (dec1 s).2) else if (dec1 s).1.ck = 0 then (((dec1 s).1, 0), (dec1 s).2) else ((PO0, 160), (dec1 s).2)

theorem decW_next (ws : List ByteArray) (q : PO × St) (i : Nat) (h : i < ws.length) : decW (ws.take (i + 1)) q = stepW (decW (ws.take i) q) (ws.getD i ByteArray.empty) := by
  unfold decW
  rw [List.take_add_one, List.foldl_append]
  simp [h]
structure okS (q : PO × St) : Prop where
  ok : okO q.1
  s : q.2.1.length ≤ 16777216
  b : Pl.isB q.2.1
theorem tx_len {s : St} (hb : Pl.isB s.1) : (txG pt s).1.length ≤ s.1.length ∧ (txG pt s).2.1.length ≤ s.1.length ∧ Pl.isB (txG pt s).2.1 := by
  have h1 := nbG_bd (m := 1) hb (by decide)
  have h2 := pt_len (s := (nbG pt s 1).2) (m := (nbG pt s 1).1)
  have h3 := isB_pt h1.2.2.2 (nbG pt s 1).1
  refine ⟨?_, Nat.le_trans h2.2 h1.2.2.1, h3.2⟩
  have : (pt (nbG pt s 1).2 (nbG pt s 1).1).1.length ≤ (nbG pt s 1).2.1.length := by
    unfold pt; split
    · simp
    · simp; omega
  exact Nat.le_trans this h1.2.2.1
set_option maxRecDepth 100000 in
theorem okS.step {q : PO × St} (h : okS q) (x : ByteArray) : okS (stepW q x) := by
  obtain ⟨⟨k0, k1, f0, f1, t0, t1, n, o, d⟩, hs, hb⟩ := h
  have ht := tx_len hb
  have hn := nbG_bd (m := 4) hb (by decide)
  have hp := pt_len (s := q.2) (m := 512)
  have hq := isB_pt hb 512
  unfold stepW
  repeat' split
  · exact ⟨⟨k0, k1, f0, f1, t0, t1, by show (strOfNums _).size ≤ _; rw [str_size]; omega, o, d⟩, by show (txG pt q.2).2.1.length ≤ _; omega, ht.2.2⟩
  · exact ⟨⟨k0, k1, f0, f1, t0, t1, n, by show (strOfNums _).size ≤ _; rw [str_size]; omega, d⟩, by show (txG pt q.2).2.1.length ≤ _; omega, ht.2.2⟩
  · exact ⟨⟨k0, k1, by show _ ≤ (nbG pt q.2 4).1; omega, by show (nbG pt q.2 4).1 ≤ _; omega, t0, t1, n, o, d⟩, by show (nbG pt q.2 4).2.1.length ≤ _; omega, hn.2.2.2⟩
  · exact ⟨⟨k0, k1, f0, f1, by show _ ≤ (nbG pt q.2 4).1; omega, by show (nbG pt q.2 4).1 ≤ _; omega, n, o, d⟩, by show (nbG pt q.2 4).2.1.length ≤ _; omega, hn.2.2.2⟩
  · exact ⟨⟨k0, k1, f0, f1, t0, t1, n, o, by show (pt q.2 512).1.length ≤ _; have := hp.1; omega⟩, by show (pt q.2 512).2.1.length ≤ _; omega, hq.2⟩
  · exact ⟨⟨k0, k1, f0, f1, t0, t1, n, o, d⟩, hs, hb⟩

/-- an operation's block -/
def OpB (w : World) (b : Nat) (o : PO) (v : Value) : Prop := w.heap[b]? = some (.cells #[.int .i64 o.k, .string o.nm, .string o.ot, .int .i64 o.fr, .int .i64 o.to, v] 29 (0, 0))
theorem OpB.lt {w : World} {b : Nat} {o : PO} {v : Value} (h : OpB w b o v) : b < w.heap.size := (Array.getElem?_eq_some_iff.1 h).1
theorem OpB.cell {w : World} {b : Nat} {o : PO} {v : Value} (h : OpB w b o v) (i : Nat) (x : Value) (hx : (#[.int .i64 o.k, .string o.nm, .string o.ot, .int .i64 o.fr, .int .i64 o.to, v] : Array Value)[i]? = some x) : w.cell? ⟨b, i, none⟩ = some x := by
  unfold OpB at h
  simp only [World.cell?, h]
  exact hx
theorem OpB.fz {w : World} {b : Nat} {o : PO} {v : Value} (h : OpB w b o v) (i : Nat) : w.frozen? ⟨b, i, none⟩ = false := by
  unfold OpB at h
  simp [World.frozen?, h]
theorem OpB.set {w : World} {b : Nat} {o o' : PO} {v v' : Value} (h : OpB w b o v) (i : Nat) (x : Value) (hx : (#[.int .i64 o.k, .string o.nm, .string o.ot, .int .i64 o.fr, .int .i64 o.to, v] : Array Value).setIfInBounds i x = #[.int .i64 o'.k, .string o'.nm, .string o'.ot, .int .i64 o'.fr, .int .i64 o'.to, v']) : OpB (w.setCell ⟨b, i, none⟩ x) b o' v' := by
  unfold OpB at *
  simp only [World.setCell, Array.getElem?_modify]
  rw [h, ← hx]
  simp
theorem OpB.keep {w w' : World} {b : Nat} {o : PO} {v : Value} (h : OpB w b o v) (hb : w'.heap[b]? = w.heap[b]?) : OpB w' b o v := hb.trans h

theorem GT.but {w w' : World} {X : Nat → Prop} (h : GT w) (hb : But X w w') (hX : ∀ x, x < 9 → ¬ X x) : GT w' where
  fm i hi := (hb.cell (p := ⟨0, i, none⟩) (by have := h.lt; show 0 < _; omega) (hX 0 (by decide))).trans (h.fm i hi)
  mx := let ⟨m, hm⟩ := h.mx; ⟨m, (hb.cell (p := ⟨1, 0, none⟩) (by have := h.lt; show 1 < _; omega) (hX 1 (by decide))).trans hm⟩
  p10 := let ⟨t, fz, hm⟩ := h.p10; ⟨t, fz, (hb.block 2 (by have := h.lt; omega) (hX 2 (by decide))).trans hm⟩
  es := let ⟨t, p, hm⟩ := h.es; ⟨t, p, (hb.cell (p := ⟨5, 0, none⟩) (by have := h.lt; show 5 < _; omega) (hX 5 (by decide))).trans hm⟩
  er := let ⟨t, p, hm⟩ := h.er; ⟨t, p, (hb.cell (p := ⟨6, 0, none⟩) (by have := h.lt; show 6 < _; omega) (hX 6 (by decide))).trans hm⟩
  lt := by have := hb.size; have := h.lt; omega

/-- within operation: R: what it answers, O: its operation, D: the words, k: the taker -/
structure OpI (R O D k m : Nat) (w wr : World) (q : PO × St) (v : Value) : Prop where
  ob : OpB wr O q.1 v
  rb : OpB wr R PO0 (.slice none 0 0)
  db : wr.heap[D]? = some (.cells #[.string (kw m), .string (tl m).1, .string (tl m).2.1, .string (tl m).2.2] 76 (0, 0))
  tk : TkS 93 wr k q.2
  ow : Ow w.heap.size wr v q.1.da
  bt : But (fun x => x = k) w wr
  ok : okS q
  kl : k < w.heap.size
  h1 : w.heap.size ≤ R
  h2 : R < O
  h3 : O < D
  h4 : D < wr.heap.size
  nO : some O ≠ v.ownBlock
  nR : some R ≠ v.ownBlock
  nD : some D ≠ v.ownBlock
theorem OpI.call {R O D k m : Nat} {w wr w' : World} {q : PO × St} {v : Value} (h : OpI R O D k m w wr q v) {s' : St} (hb : But (fun x => x = k) wr w') (ht : TkS 93 w' k s') (hs : s'.1.length ≤ 16777216) (hB : Pl.isB s'.1) : OpI R O D k m w w' (q.1, s') v where
  ob := h.ob.keep (hb.block O h.ob.lt (by have := h.kl; have := h.h1; have := h.h2; omega))
  rb := h.rb.keep (hb.block R h.rb.lt (by have := h.kl; have := h.h1; omega))
  db := (hb.block D h.h4 (by have := h.kl; have := h.h1; have := h.h2; have := h.h3; omega)).trans h.db
  tk := ht
  ow := h.ow.keep fun g hg => hb.block g (h.ow.lt g hg) (by have := h.ow.base g hg; have := h.kl; omega)
  bt := h.bt.trans hb
  ok := ⟨h.ok.ok, hs, hB⟩
  kl := h.kl
  h1 := h.h1
  h2 := h.h2
  h3 := h.h3
  h4 := by have := h.h4; have := hb.size; omega
  nO := h.nO
  nR := h.nR
  nD := h.nD
theorem OpI.put {R O D k m : Nat} {w wr : World} {q : PO × St} {v : Value} (h : OpI R O D k m w wr q v) (i : Nat) (x : Value) {o' : PO} {v' : Value} (hx : (#[.int .i64 q.1.k, .string q.1.nm, .string q.1.ot, .int .i64 q.1.fr, .int .i64 q.1.to, v] : Array Value).setIfInBounds i x = #[.int .i64 o'.k, .string o'.nm, .string o'.ot, .int .i64 o'.fr, .int .i64 o'.to, v']) (hok : okO o') (how : Ow w.heap.size wr v' o'.da) (n1 : some O ≠ v'.ownBlock) (n2 : some R ≠ v'.ownBlock) (n3 : some D ≠ v'.ownBlock) : OpI R O D k m w (wr.setCell ⟨O, i, none⟩ x) (o', q.2) v' := by
  have hb : But (fun y => y = O) wr (wr.setCell ⟨O, i, none⟩ x) := (But.refl (fun y => y = O) wr).setCell (p := ⟨O, i, none⟩) rfl _
  have k1 := h.kl
  have k2 := h.h1
  have k3 := h.h2
  have k4 := h.h3
  refine ⟨h.ob.set i x hx, h.rb.keep (hb.block R h.rb.lt (by omega)), (hb.block D h.h4 (by omega)).trans h.db, h.tk.but hb (fun y hy => by omega), how.keep fun g hg => hb.block g (how.lt g hg) (fun e => n1 (by rw [hg, e])), ?_, ⟨hok, h.ok.s, h.ok.b⟩, h.kl, h.h1, h.h2, h.h3, by have := h.h4; have := hb.size; omega, n1, n2, n3⟩
  exact ⟨hb.os.trans h.bt.os, hb.tape.trans h.bt.tape, hb.output.trans h.bt.output, Nat.le_trans h.bt.size hb.size, fun j hj hn => (hb.block j (Nat.lt_of_lt_of_le hj h.bt.size) (by omega)).trans (h.bt.block j hj hn)⟩

end Go.Proofs.YthkkdmblkalknaaGreatDoor
/-
  op: operation, of a kind that is none.
-/
namespace Go.Proofs.YthkkdmblkalknaaGreatDoor
open Go.RowKit

/-- an operation laid over a block -/
def put6 (w : World) (b : Nat) (o : PO) (v : Value) : World := (((((w.setCell ⟨b, 0, none⟩ (.int .i64 o.k)).setCell ⟨b, 1, none⟩ (.string o.nm)).setCell ⟨b, 2, none⟩ (.string o.ot)).setCell ⟨b, 3, none⟩ (.int .i64 o.fr)).setCell ⟨b, 4, none⟩ (.int .i64 o.to)).setCell ⟨b, 5, none⟩ v
theorem OpB.put6 {w : World} {b : Nat} {o : PO} {v : Value} (h : OpB w b o v) (o' : PO) (v' : Value) : OpB (put6 w b o' v') b o' v' := by
  have h0 := h.set (o' := ⟨o'.k, o.nm, o.ot, o.fr, o.to, []⟩) (v' := v) 0 (.int .i64 o'.k) rfl
  have h1 := h0.set (o' := ⟨o'.k, o'.nm, o.ot, o.fr, o.to, []⟩) (v' := v) 1 (.string o'.nm) rfl
  have h2 := h1.set (o' := ⟨o'.k, o'.nm, o'.ot, o.fr, o.to, []⟩) (v' := v) 2 (.string o'.ot) rfl
  have h3 := h2.set (o' := ⟨o'.k, o'.nm, o'.ot, o'.fr, o.to, []⟩) (v' := v) 3 (.int .i64 o'.fr) rfl
  have h4 := h3.set (o' := ⟨o'.k, o'.nm, o'.ot, o'.fr, o'.to, []⟩) (v' := v) 4 (.int .i64 o'.to) rfl
  exact h4.set (o' := o') (v' := v') 5 v' rfl
theorem but_put6 (w : World) (b : Nat) (o : PO) (v : Value) : But (fun x => x = b) w (put6 w b o v) :=
  ((((((But.refl (fun x => x = b) w).setCell (p := ⟨b, 0, none⟩) rfl _).setCell (p := ⟨b, 1, none⟩) rfl _).setCell (p := ⟨b, 2, none⟩) rfl _).setCell (p := ⟨b, 3, none⟩) rfl _).setCell (p := ⟨b, 4, none⟩) rfl _).setCell (p := ⟨b, 5, none⟩) rfl _
/-- what the answer of operation says of the world -/
def OpE (w : World) (k : Nat) (o : PO) (s : St) (v : Value) (w' : World) : Prop := Ow w.heap.size w' v o.da ∧ TkS 93 w' k s ∧ But (fun x => x = k) w w'
theorem OpE.put6 {w w' : World} {k R : Nat} {o : PO} {s : St} {v : Value} (h : OpE w k o s v w') (hk : k < w.heap.size) (hR : w.heap.size ≤ R) (hn : some R ≠ v.ownBlock) (o' : PO) (v' : Value) : OpE w k o s v (put6 w' R o' v') := by
  obtain ⟨h1, h2, h3⟩ := h
  have hb := but_put6 w' R o' v'
  refine ⟨h1.keep fun g hg => hb.block g (h1.lt g hg) (fun e => hn (by rw [hg, e])), h2.but hb (fun x hx => by omega), ?_⟩
  exact ⟨hb.os.trans h3.os, hb.tape.trans h3.tape, hb.output.trans h3.output, Nat.le_trans h3.size hb.size, fun j hj hn => (hb.block j (Nat.lt_of_lt_of_le hj h3.size) (by omega)).trans (h3.block j hj hn)⟩
theorem results_op {fn : Func} {p u : Tmp} (h : fn.results = #[.cell p 29, .tmp u]) (tmps : Array Value) (w : World) (R : Nat) (o : PO) (v x : Value) (hp : tmps.getD p undef = .pointer (some ⟨R, 0, none⟩)) (hx : tmps.getD u undef = x) (hB : OpB w R o v) :
    (results fn tmps).run Tryz.prog w = .ok (.tuple #[.agg #[.int .i64 o.k, .string o.nm, .string o.ot, .int .i64 o.fr, .int .i64 o.to, v], x]) w :=
  results_row_tmp h tmps w R 29 _ (0, 0) _ x hp hx hB Tryz.underlying29 rfl (by kernel_rfl)

set_option maxRecDepth 100000 in
set_option maxHeartbeats 4000000 in
theorem operation_no {w : World} {k : Nat} {s : St} (hT : TkS 93 w k s) (hs : s.1.length ≤ 16777216) (hK : (nbG pt s 1).1 < 1 ∨ 11 < (nbG pt s 1).1) :
    Calls Tryz.prog 43 #[.pointer (some ⟨k, 0, none⟩)] w fun e w' => e = .returned (.tuple #[.agg #[.int .i64 0, .string cE, .string cE, .int .i64 0, .int .i64 0, .slice none 0 0], .int .i64 160]) ∧ OpE w k PO0 (nbG pt s 1).2 (.slice none 0 0) w' := by
  have hkl := hT.lt
  obtain ⟨W0, hW0⟩ : ∃ W0, W0 = w.alloc (.cells #[.int .i64 0, .string cE, .string cE, .int .i64 0, .int .i64 0, .slice none 0 0] 29) := ⟨_, rfl⟩
  have b0 : Below w.heap.size w W0 := by rw [hW0]; exact below1 _ _
  have r0 : OpB W0 w.heap.size PO0 (.slice none 0 0) := by rw [hW0]; exact heap_new _ _
  have HA : Hid (Calls Tryz.prog 73 #[.pointer (some ⟨k, 0, none⟩), .int .i64 1] W0 fun e w1 => e = .returned (.int .i64 (nbG pt s 1).1) ∧ ∀ W1, W1 = w1.alloc (.cells #[.int .i64 (nbG pt s 1).1, .string cE, .string cE, .int .i64 0, .int .i64 0, .slice none 0 0] 29) →
      Calls Tryz.prog 32 #[.int .i64 (nbG pt s 1).1] W1 fun e w2 => e = .returned (.tuple #[.agg #[.string cE, .string cE, .string cE, .string cE], .bool false]) ∧ ∀ W2, W2 = w2.alloc (.cells #[.string cE, .string cE, .string cE, .string cE] 76) → OpB W2 w.heap.size PO0 (.slice none 0 0) ∧ OpE w k PO0 (nbG pt s 1).2 (.slice none 0 0) W2) := by
    refine (number_any 1 (.inl rfl) hs (hT.but (But.of_below (X := fun _ => False) b0) (fun _ _ h => h))).mono ?_
    rintro e w1 ⟨rfl, hT1, hb1⟩
    refine ⟨rfl, fun W1 hW1 => ?_⟩
    have b1 : Below w1.heap.size w1 W1 := by rw [hW1]; exact below1 _ _
    refine (formOf_no _ hK W1).mono ?_
    rintro e w2 ⟨rfl, b2⟩
    refine ⟨rfl, fun W2 hW2 => ?_⟩
    have b3 : Below w2.heap.size w2 W2 := by rw [hW2]; exact below1 _ _
    have b4 : Below w1.heap.size w1 W2 := b1.trans ((b2.trans (b3.mono b2.size)).mono b1.size)
    have r1 : OpB w1 w.heap.size PO0 (.slice none 0 0) := r0.keep (hb1.block _ r0.lt (by omega))
    refine ⟨r1.keep (b4.block _ r1.lt), Ow.nil _ _, hT1.but (But.of_below (X := fun _ => False) b4) (fun _ _ h => h), ?_⟩
    exact (But.of_below b0).trans (hb1.trans (But.of_below b4))
  have HW0 := hid hW0
  have HKL := hid hkl
  clear hT hs hK hW0 b0 r0 hkl
  generalize (nbG pt s 1).2 = s1 at *
  generalize (nbG pt s 1).1 = K at *
  go_enter Tryz.func43, Tryz.ntmps43
  go_wp2_with fail
  rw [← HW0.out]
  refine HA.out.mono ?_
  rintro e w1 ⟨rfl, hB⟩
  have HB := hid (hB _ rfl)
  clear hB HA HW0
  go_wp2_with fail
  refine HB.out.mono ?_
  rintro e w2 ⟨rfl, hC⟩
  have HC := hid (hC _ rfl)
  clear hC HB
  obtain ⟨hr, _⟩ := HC.out
  have c0 := hr.cell 0 _ rfl
  have c1 := hr.cell 1 _ rfl
  have c2 := hr.cell 2 _ rfl
  have c3 := hr.cell 3 _ rfl
  have c4 := hr.cell 4 _ rfl
  have c5 := hr.cell 5 _ rfl
  have z0 := hr.fz 0
  have z1 := hr.fz 1
  have z2 := hr.fz 2
  have z3 := hr.fz 3
  have z4 := hr.fz 4
  have z5 := hr.fz 5
  clear hr
  go_wp2_with fail
  exact bodyPost_ret (results_op rfl _ _ w.heap.size PO0 (.slice none 0 0) (.int .i64 160) rfl rfl (HC.out.1.put6 PO0 (.slice none 0 0))) rfl ⟨rfl, HC.out.2.put6 HKL.out (Nat.le_refl _) (by simp [Value.ownBlock]) PO0 (.slice none 0 0)⟩

end Go.Proofs.YthkkdmblkalknaaGreatDoor
