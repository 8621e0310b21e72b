import Derived.Test.YthkkdmblkalknaaGreatDoorA10
import Derived.Test.YthkkdmblkalknaaGreatDoorA12
import Derived.Test.YthkkdmblkalknaaGreatDoorA13
import Derived.Lib.AtoiTie
import Derived.Lib.AtoiAllCases
import Derived.Lib.ItoaMem
/-
  Encode and Decode in plain words: there and back.
-/
namespace Go.Proofs.YthkkdmblkalknaaGreatDoor
open Go.RowKit

/-! ### taking -/
theorem pt_app (a r : List Int) (b : Bool) : pt (a ++ r, b) (a.length : Int) = (a, (r, b)) := by
  unfold pt
  rw [if_neg (by simp; omega)]
  simp
theorem nb_app (v : Int) (n : Nat) (h0 : 0 ≤ v) (h1 : v < 256 ^ n) (r : List Int) (b : Bool) : nbG pt (Pl.dig v n ++ r, b) n = (v, (r, b)) := by
  have := pt_app (Pl.dig v n) r b
  rw [Pl.length_dig] at this
  unfold nbG
  rw [this, Pl.num_dig v n h0 h1]
theorem tx_app (s : ByteArray) (h : s.size < 256) (r : List Int) (b : Bool) : txG pt (txtB s ++ r, b) = (nums s, (r, b)) := by
  unfold txG txtB
  rw [List.append_assoc, show (1 : Int) = ((1 : Nat) : Int) from rfl, nb_app (s.size : Int) 1 (by omega) (by show (s.size : Int) < 256 ^ 1; omega)]
  have := pt_app (nums s) r b
  rw [length_nums] at this
  exact this
/-! ### what was taken -/
theorem nums_str {l : List Int} (h : Pl.isB l) : nums (strOfNums l) = l := by
  have e : nums (strOfNums l) = l.map fun n => ((UInt8.ofNat n.toNat).toNat : Int) := by
    unfold nums strOfNums
    simp [List.map_map, Function.comp_def]
  rw [e]
  conv => rhs; rw [← List.map_id l]
  refine List.map_congr_left fun n hn => ?_
  have := h n hn
  have h2 : (UInt8.ofNat n.toNat).toNat = n.toNat % 256 := by simp
  rw [h2]
  show ((n.toNat % 256 : Nat) : Int) = n
  omega
theorem pt_inv {s : St} {k : Int} (h : (pt s k).2.2 = false) (h0 : 0 ≤ k) : s.2 = false ∧ s.1 = (pt s k).1 ++ (pt s k).2.1 ∧ ((pt s k).1.length : Int) = k := by
  unfold pt at h ⊢
  split
  · rename_i q; rw [if_pos q] at h; cases h
  · rename_i q
    rw [if_neg q] at h
    refine ⟨h, by simp, ?_⟩
    simp only [List.length_take]
    omega
theorem nb_inv {s : St} {n : Nat} (hb : Pl.isB s.1) (h : (nbG pt s n).2.2 = false) : s.2 = false ∧ s.1 = Pl.dig (nbG pt s n).1 n ++ (nbG pt s n).2.1 ∧ 0 ≤ (nbG pt s n).1 := by
  obtain ⟨e1, e2, e3⟩ := pt_inv (s := s) (k := n) h (by omega)
  have hb2 := (isB_pt hb (n : Int)).1
  refine ⟨e1, ?_, ?_⟩
  · have := Pl.dig_num hb2
    rw [show (pt s n).1.length = n by omega] at this
    show s.1 = Pl.dig (Pl.num (pt s n).1) n ++ (pt s n).2.1
    rw [this]
    exact e2
  · exact Pl.num_nonneg hb2
theorem tx_inv {s : St} (hb : Pl.isB s.1) (h : (txG pt s).2.2 = false) : s.2 = false ∧ s.1 = txtB (strOfNums (txG pt s).1) ++ (txG pt s).2.1 := by
  have hb1 : Pl.isB (nbG pt s 1).2.1 := (isB_pt hb 1).2
  have hn0 : 0 ≤ (nbG pt s 1).1 := Pl.num_nonneg (isB_pt hb 1).1
  obtain ⟨e1, e2, e3⟩ := pt_inv (s := (nbG pt s 1).2) (k := (nbG pt s 1).1) h hn0
  obtain ⟨f1, f2, _⟩ := nb_inv (n := 1) hb e1
  have hbt : Pl.isB (txG pt s).1 := (isB_pt hb1 _).1
  refine ⟨f1, ?_⟩
  unfold txtB
  have hsz : ((strOfNums (txG pt s).1).size : Int) = (nbG pt s 1).1 := by rw [str_size]; exact e3
  rw [hsz, nums_str hbt, List.append_assoc]
  have e2' : (nbG pt s 1).2.1 = (txG pt s).1 ++ (txG pt s).2.1 := e2
  rw [← e2']
  exact f2

end Go.Proofs.YthkkdmblkalknaaGreatDoor
/-
  An operation's bytes: there and back.
-/
namespace Go.Proofs.YthkkdmblkalknaaGreatDoor
open Go.RowKit

def sNM (q : PO × St) : PO × St := (⟨q.1.k, strOfNums (txG pt q.2).1, q.1.ot, q.1.fr, q.1.to, q.1.da⟩, (txG pt q.2).2)
def sOT (q : PO × St) : PO × St := (⟨q.1.k, q.1.nm, strOfNums (txG pt q.2).1, q.1.fr, q.1.to, q.1.da⟩, (txG pt q.2).2)
def sFR (q : PO × St) : PO × St := (⟨q.1.k, q.1.nm, q.1.ot, (nbG pt q.2 4).1, q.1.to, q.1.da⟩, (nbG pt q.2 4).2)
def sTO (q : PO × St) : PO × St := (⟨q.1.k, q.1.nm, q.1.ot, q.1.fr, (nbG pt q.2 4).1, q.1.da⟩, (nbG pt q.2 4).2)
def sDA (q : PO × St) : PO × St := (⟨q.1.k, q.1.nm, q.1.ot, q.1.fr, q.1.to, (pt q.2 512).1⟩, (pt q.2 512).2)
/-- the fields that a kind takes, and gives -/
def decK (m : Nat) (q : PO × St) : PO × St :=
  match m with
  | 1 | 4 => sTO (sNM q)
  | 6 => sNM q
  | 8 => sDA (sFR (sNM q))
  | 9 | 10 => sTO (sFR (sNM q))
  | 11 => sTO q
  | _ => sOT (sNM q)
def encK (m : Nat) (o : PO) : List Int :=
  match m with
  | 1 | 4 => txtB o.nm ++ Pl.dig o.to 4
  | 6 => txtB o.nm
  | 8 => txtB o.nm ++ (Pl.dig o.fr 4 ++ o.da)
  | 9 | 10 => txtB o.nm ++ (Pl.dig o.fr 4 ++ Pl.dig o.to 4)
  | 11 => Pl.dig o.to 4
  | _ => txtB o.nm ++ txtB o.ot
set_option maxRecDepth 100000 in
theorem dec_kind {m : Nat} (h1 : 1 ≤ m) (h2 : m ≤ 11) (q : PO × St) : decW (wordsOf m) q = decK m q := by
  rcases nat_kinds h1 h2 with rfl | rfl | rfl | rfl | rfl | rfl | rfl | rfl | rfl | rfl | rfl <;> rfl
set_option maxRecDepth 100000 in
theorem enc_kind {m : Nat} (h1 : 1 ≤ m) (h2 : m ≤ 11) (o : PO) : (wordsOf m).flatMap (wordB o) = encK m o := by
  rcases nat_kinds h1 h2 with rfl | rfl | rfl | rfl | rfl | rfl | rfl | rfl | rfl | rfl | rfl
  all_goals
    simp only [encK]
    simp [wordsOf, frm, nw, tl, kw, wordB]
    try decide

end Go.Proofs.YthkkdmblkalknaaGreatDoor
/-
  Encode and Decode: there and back.
-/
namespace Go.Proofs.YthkkdmblkalknaaGreatDoor
open Go.RowKit

theorem emp_eq {s : ByteArray} (h : emp s = true) : s = cE := by
  unfold emp at h
  rw [beq_iff_eq, ByteArray.toList_eq] at h
  have : s.data = #[] := by
    have := congrArg List.toArray h
    simpa using this
  cases s
  simp at this
  rw [this]
/-- an operation that may be -/
structure CkF (m : Nat) (o : PO) : Prop where
  kk : o.k = m
  m1 : 1 ≤ m
  m2 : m ≤ 11
  e1 : uN m = false → o.nm = cE
  e2 : uO m = false → o.ot = cE
  e3 : uF m = false → o.fr = 0
  e4 : uT m = false → o.to = 0
  e5 : uD m = false → o.da = []
  e6 : uD m = true → o.da.length = 512
  ok : CkOk o.k o.nm o.ot o.fr o.to o.da.length
theorem ck_f {o : PO} (h : o.ck = 0) : ∃ m, CkF m o := by
  have hok := ck_ok (show ckO o.k o.nm o.ot o.fr o.to o.da.length = 0 from h)
  have h' : ckO o.k o.nm o.ot o.fr o.to o.da.length = 0 := h
  unfold ckO at h'
  rw [if_neg (by have := hok.k1; have := hok.k2; omega)] at h'
  obtain ⟨m, hm⟩ := Int.eq_ofNat_of_zero_le (show 0 ≤ o.k by have := hok.k1; omega)
  rw [hm, Int.toNat_natCast] at h'
  by_cases h1 : isF m o.nm o.ot o.fr o.to o.da.length = false
  · rw [if_pos h1] at h'; cases h'
  rw [if_neg h1] at h'
  by_cases h2 : (uN m && !nmB o.nm) = true
  · rw [if_pos h2] at h'; cases h'
  rw [if_neg h2] at h'
  by_cases h3 : (uO m && !nmB o.ot) = true
  · rw [if_pos h3] at h'; cases h'
  rw [if_neg h3] at h'
  by_cases h4 : (uD m && (o.da.length : Int) != 512) = true
  · rw [if_pos h4] at h'; cases h'
  clear h'
  simp only [Bool.not_eq_false] at h1
  unfold isF isF5 at h1
  simp only [Bool.and_eq_true, Bool.or_eq_true, beq_iff_eq] at h1
  obtain ⟨⟨⟨⟨p1, p2⟩, p3⟩, p4⟩, p5⟩ := h1
  have k1 := hok.k1
  have k2 := hok.k2
  refine ⟨m, hm, by omega, by omega, fun e => ?_, fun e => ?_, fun e => ?_, fun e => ?_, fun e => ?_, fun e => ?_, hok⟩
  · rw [e] at p1; exact emp_eq (p1.resolve_left (by decide))
  · rw [e] at p2; exact emp_eq (p2.resolve_left (by decide))
  · rw [e] at p3; exact p3.resolve_left (by decide)
  · rw [e] at p4; exact p4.resolve_left (by decide)
  · rw [e] at p5; exact List.eq_nil_of_length_eq_zero (by have := p5.resolve_left (by decide); omega)
  · rw [e] at h4; simp at h4; omega
theorem PO.ext' {a b : PO} (h1 : a.k = b.k) (h2 : a.nm = b.nm) (h3 : a.ot = b.ot) (h4 : a.fr = b.fr) (h5 : a.to = b.to) (h6 : a.da = b.da) : a = b := by
  cases a; cases b; simp_all
theorem pt_da (a r : List Int) (h : a.length = 512) : pt (a ++ r, false) 512 = (a, (r, false)) := by
  have := pt_app a r false
  rw [h] at this
  exact this
theorem nb4 (v : Int) (h0 : 0 ≤ v) (h1 : v < 4294967296) (r : List Int) : nbG pt (Pl.dig v 4 ++ r, false) 4 = (v, (r, false)) := nb_app v 4 h0 h1 r false
/-- an operation whose fields fit in their bytes; what its kind does not use is nothing -/
structure Fit (m : Nat) (o : PO) : Prop where
  kk : o.k = m
  m1 : 1 ≤ m
  m2 : m ≤ 11
  e1 : uN m = false → o.nm = cE
  e2 : uO m = false → o.ot = cE
  e3 : uF m = false → o.fr = 0
  e4 : uT m = false → o.to = 0
  e5 : uD m = false → o.da = []
  e6 : uD m = true → o.da.length = 512
  nm : o.nm.size < 256
  ot : o.ot.size < 256
  f0 : 0 ≤ o.fr
  f1 : o.fr < 4294967296
  t0 : 0 ≤ o.to
  t1 : o.to < 4294967296
theorem CkF.fit {m : Nat} {o : PO} (h : CkF m o) : Fit m o := by
  have q1 := h.ok.nm
  have q2 := h.ok.ot
  have q3 := h.ok.f1
  have q4 := h.ok.t1
  exact ⟨h.kk, h.m1, h.m2, h.e1, h.e2, h.e3, h.e4, h.e5, h.e6, by omega, by omega, h.ok.f0, by omega, h.ok.t0, by omega⟩
def kd0 (m : Nat) : PO := ⟨m, cE, cE, 0, 0, []⟩
set_option maxRecDepth 100000 in
/-- what is written is taken -/
theorem decK_enc {m : Nat} {o : PO} (hF : Fit m o) (r : List Int) : decK m (kd0 m, (encK m o ++ r, false)) = (o, (r, false)) := by
  obtain ⟨kk, m1, m2, E1, E2, E3, E4, E5, E6, hn, ho, f0, f1, t0, t1⟩ := hF
  rcases nat_kinds m1 m2 with rfl | rfl | rfl | rfl | rfl | rfl | rfl | rfl | rfl | rfl | rfl
  all_goals
    simp only [decK, encK, sNM, sOT, sFR, sTO, sDA, kd0, List.append_assoc]
    first | rw [tx_app o.nm hn] | skip
    try dsimp only
    first | rw [tx_app o.ot ho] | skip
    first | rw [nb4 o.fr f0 f1] | skip
    try dsimp only
    first | rw [nb4 o.to t0 t1] | skip
    first | rw [pt_da o.da r (E6 (by decide))] | skip
    refine Prod.ext (PO.ext' kk.symm ?_ ?_ ?_ ?_ ?_) rfl
    all_goals first | rfl | exact str_nums _ | exact (E1 (by decide)).symm | exact (E2 (by decide)).symm | exact (E3 (by decide)).symm | exact (E4 (by decide)).symm | exact (E5 (by decide)).symm
theorem nb_inv4 {s : St} (hb : Pl.isB s.1) (h : (nbG pt s 4).2.2 = false) : s.2 = false ∧ s.1 = Pl.dig (nbG pt s 4).1 4 ++ (nbG pt s 4).2.1 := ⟨(nb_inv (n := 4) hb h).1, (nb_inv (n := 4) hb h).2.1⟩
theorem pt_le1 (s : St) (k : Int) (hk : 0 ≤ k) : ((pt s k).1.length : Int) ≤ k := by
  unfold pt
  split
  · exact hk
  · simp only [List.length_take]
    omega
theorem tx_bd {s : St} (hb : Pl.isB s.1) : (strOfNums (txG pt s).1).size < 256 ∧ Pl.isB (txG pt s).2.1 := by
  have hb1 : Pl.isB (nbG pt s 1).2.1 := (isB_pt hb 1).2
  have q := isB_pt hb1 (nbG pt s 1).1
  refine ⟨?_, q.2⟩
  rw [str_size]
  have h1 : ((txG pt s).1.length : Int) ≤ (nbG pt s 1).1 := pt_le1 _ _ (Pl.num_nonneg (isB_pt hb 1).1)
  have h2 : (nbG pt s 1).1 < 256 := by
    have l1 := Pl.num_lt (isB_pt hb 1).1
    have l2 : (pt s 1).1.length ≤ 1 := by
      unfold pt
      split
      · simp
      · simp only [List.length_take]; omega
    have e : (nbG pt s 1).1 = Pl.num (pt s 1).1 := rfl
    rcases Nat.eq_zero_or_pos (pt s 1).1.length with h | h
    · rw [h] at l1; simp at l1; omega
    · rw [show (pt s 1).1.length = 1 by omega] at l1; simp at l1; omega
  omega
theorem nb_bd4 {s : St} (hb : Pl.isB s.1) : (0 ≤ (nbG pt s 4).1 ∧ (nbG pt s 4).1 < 4294967296) ∧ Pl.isB (nbG pt s 4).2.1 := by
  have q := isB_pt hb 4
  refine ⟨⟨Pl.num_nonneg q.1, ?_⟩, q.2⟩
  refine num_lt4 q.1 ?_
  unfold pt
  split
  · simp
  · simp only [List.length_take]; omega
set_option maxRecDepth 100000 in
/-- what is taken was written so -/
theorem decK_inv {m : Nat} (m1 : 1 ≤ m) (m2 : m ≤ 11) {s : St} (hb : Pl.isB s.1) (h : (decK m (kd0 m, s)).2.2 = false) : s.2 = false ∧ s.1 = encK m (decK m (kd0 m, s)).1 ++ (decK m (kd0 m, s)).2.1 ∧ Fit m (decK m (kd0 m, s)).1 ∧ Pl.isB (decK m (kd0 m, s)).2.1 := by
  have n0 : cE.size < 256 := by decide
  have zl : (0 : Int) < 4294967296 := by decide
  rcases nat_kinds m1 m2 with rfl | rfl | rfl | rfl | rfl | rfl | rfl | rfl | rfl | rfl | rfl
  · obtain ⟨z0, b0⟩ := tx_bd (s := s) hb
    obtain ⟨z1, b1⟩ := nb_bd4 (s := (txG pt s).2) b0
    obtain ⟨f1, g1⟩ := nb_inv4 (s := (txG pt s).2) b0 h
    obtain ⟨f0, g0⟩ := tx_inv (s := s) hb f1
    refine ⟨f0, ?_, ⟨rfl, m1, m2, fun e => ?_, fun e => ?_, fun e => ?_, fun e => ?_, fun e => ?_, fun e => absurd e (by decide), z0, n0, Int.le_refl _, zl, z1.1, z1.2⟩, b1⟩
    · show s.1 = encK _ _ ++ ((nbG pt (txG pt s).2 4).2).1
      simp only [decK, encK, sNM, sTO, List.append_assoc]
      rw [← show _ = _ from g1]
      exact g0
    all_goals first | rfl | exact absurd e (by decide)
  · obtain ⟨z0, b0⟩ := tx_bd (s := s) hb
    obtain ⟨z1, b1⟩ := tx_bd (s := (txG pt s).2) b0
    obtain ⟨f1, g1⟩ := tx_inv (s := (txG pt s).2) b0 h
    obtain ⟨f0, g0⟩ := tx_inv (s := s) hb f1
    refine ⟨f0, ?_, ⟨rfl, m1, m2, fun e => ?_, fun e => ?_, fun e => ?_, fun e => ?_, fun e => ?_, fun e => absurd e (by decide), z0, z1, Int.le_refl _, zl, Int.le_refl _, zl⟩, b1⟩
    · show s.1 = encK _ _ ++ ((txG pt (txG pt s).2).2).1
      simp only [decK, encK, sNM, sOT, List.append_assoc]
      rw [← show _ = _ from g1]
      exact g0
    all_goals first | rfl | exact absurd e (by decide)
  · obtain ⟨z0, b0⟩ := tx_bd (s := s) hb
    obtain ⟨z1, b1⟩ := tx_bd (s := (txG pt s).2) b0
    obtain ⟨f1, g1⟩ := tx_inv (s := (txG pt s).2) b0 h
    obtain ⟨f0, g0⟩ := tx_inv (s := s) hb f1
    refine ⟨f0, ?_, ⟨rfl, m1, m2, fun e => ?_, fun e => ?_, fun e => ?_, fun e => ?_, fun e => ?_, fun e => absurd e (by decide), z0, z1, Int.le_refl _, zl, Int.le_refl _, zl⟩, b1⟩
    · show s.1 = encK _ _ ++ ((txG pt (txG pt s).2).2).1
      simp only [decK, encK, sNM, sOT, List.append_assoc]
      rw [← show _ = _ from g1]
      exact g0
    all_goals first | rfl | exact absurd e (by decide)
  · obtain ⟨z0, b0⟩ := tx_bd (s := s) hb
    obtain ⟨z1, b1⟩ := nb_bd4 (s := (txG pt s).2) b0
    obtain ⟨f1, g1⟩ := nb_inv4 (s := (txG pt s).2) b0 h
    obtain ⟨f0, g0⟩ := tx_inv (s := s) hb f1
    refine ⟨f0, ?_, ⟨rfl, m1, m2, fun e => ?_, fun e => ?_, fun e => ?_, fun e => ?_, fun e => ?_, fun e => absurd e (by decide), z0, n0, Int.le_refl _, zl, z1.1, z1.2⟩, b1⟩
    · show s.1 = encK _ _ ++ ((nbG pt (txG pt s).2 4).2).1
      simp only [decK, encK, sNM, sTO, List.append_assoc]
      rw [← show _ = _ from g1]
      exact g0
    all_goals first | rfl | exact absurd e (by decide)
  · obtain ⟨z0, b0⟩ := tx_bd (s := s) hb
    obtain ⟨z1, b1⟩ := tx_bd (s := (txG pt s).2) b0
    obtain ⟨f1, g1⟩ := tx_inv (s := (txG pt s).2) b0 h
    obtain ⟨f0, g0⟩ := tx_inv (s := s) hb f1
    refine ⟨f0, ?_, ⟨rfl, m1, m2, fun e => ?_, fun e => ?_, fun e => ?_, fun e => ?_, fun e => ?_, fun e => absurd e (by decide), z0, z1, Int.le_refl _, zl, Int.le_refl _, zl⟩, b1⟩
    · show s.1 = encK _ _ ++ ((txG pt (txG pt s).2).2).1
      simp only [decK, encK, sNM, sOT, List.append_assoc]
      rw [← show _ = _ from g1]
      exact g0
    all_goals first | rfl | exact absurd e (by decide)
  · obtain ⟨z0, b0⟩ := tx_bd (s := s) hb
    obtain ⟨f0, g0⟩ := tx_inv (s := s) hb h
    refine ⟨f0, ?_, ⟨rfl, m1, m2, fun e => ?_, fun e => ?_, fun e => ?_, fun e => ?_, fun e => ?_, fun e => absurd e (by decide), z0, n0, Int.le_refl _, zl, Int.le_refl _, zl⟩, b0⟩
    · show s.1 = encK _ _ ++ ((txG pt s).2).1
      simp only [decK, encK, sNM]
      exact g0
    all_goals first | rfl | exact absurd e (by decide)
  · obtain ⟨z0, b0⟩ := tx_bd (s := s) hb
    obtain ⟨z1, b1⟩ := tx_bd (s := (txG pt s).2) b0
    obtain ⟨f1, g1⟩ := tx_inv (s := (txG pt s).2) b0 h
    obtain ⟨f0, g0⟩ := tx_inv (s := s) hb f1
    refine ⟨f0, ?_, ⟨rfl, m1, m2, fun e => ?_, fun e => ?_, fun e => ?_, fun e => ?_, fun e => ?_, fun e => absurd e (by decide), z0, z1, Int.le_refl _, zl, Int.le_refl _, zl⟩, b1⟩
    · show s.1 = encK _ _ ++ ((txG pt (txG pt s).2).2).1
      simp only [decK, encK, sNM, sOT, List.append_assoc]
      rw [← show _ = _ from g1]
      exact g0
    all_goals first | rfl | exact absurd e (by decide)
  · obtain ⟨z0, b0⟩ := tx_bd (s := s) hb
    obtain ⟨z1, b1⟩ := nb_bd4 (s := (txG pt s).2) b0
    have b2 := (isB_pt (s := (nbG pt (txG pt s).2 4).2) b1 512).2
    obtain ⟨f2, g2, l2⟩ := pt_inv (s := (nbG pt (txG pt s).2 4).2) (k := 512) h (by omega)
    obtain ⟨f1, g1⟩ := nb_inv4 (s := (txG pt s).2) b0 f2
    obtain ⟨f0, g0⟩ := tx_inv (s := s) hb f1
    refine ⟨f0, ?_, ⟨rfl, m1, m2, fun e => ?_, fun e => ?_, fun e => ?_, fun e => ?_, fun e => ?_, fun _ => by have := l2; exact (by omega : ((pt (nbG pt (txG pt s).2 4).2 512).1.length) = 512), z0, n0, z1.1, z1.2, Int.le_refl _, zl⟩, b2⟩
    · show s.1 = encK _ _ ++ ((pt (nbG pt (txG pt s).2 4).2 512).2).1
      simp only [decK, encK, sNM, sFR, sDA, List.append_assoc]
      rw [← show _ = _ from g2, ← show _ = _ from g1]
      exact g0
    all_goals first | rfl | exact absurd e (by decide)
  · obtain ⟨z0, b0⟩ := tx_bd (s := s) hb
    obtain ⟨z1, b1⟩ := nb_bd4 (s := (txG pt s).2) b0
    obtain ⟨z2, b2⟩ := nb_bd4 (s := (nbG pt (txG pt s).2 4).2) b1
    obtain ⟨f2, g2⟩ := nb_inv4 (s := (nbG pt (txG pt s).2 4).2) b1 h
    obtain ⟨f1, g1⟩ := nb_inv4 (s := (txG pt s).2) b0 f2
    obtain ⟨f0, g0⟩ := tx_inv (s := s) hb f1
    refine ⟨f0, ?_, ⟨rfl, m1, m2, fun e => ?_, fun e => ?_, fun e => ?_, fun e => ?_, fun e => ?_, fun e => absurd e (by decide), z0, n0, z1.1, z1.2, z2.1, z2.2⟩, b2⟩
    · show s.1 = encK _ _ ++ ((nbG pt (nbG pt (txG pt s).2 4).2 4).2).1
      simp only [decK, encK, sNM, sFR, sTO, List.append_assoc]
      rw [← show _ = _ from g2, ← show _ = _ from g1]
      exact g0
    all_goals first | rfl | exact absurd e (by decide)
  · obtain ⟨z0, b0⟩ := tx_bd (s := s) hb
    obtain ⟨z1, b1⟩ := nb_bd4 (s := (txG pt s).2) b0
    obtain ⟨z2, b2⟩ := nb_bd4 (s := (nbG pt (txG pt s).2 4).2) b1
    obtain ⟨f2, g2⟩ := nb_inv4 (s := (nbG pt (txG pt s).2 4).2) b1 h
    obtain ⟨f1, g1⟩ := nb_inv4 (s := (txG pt s).2) b0 f2
    obtain ⟨f0, g0⟩ := tx_inv (s := s) hb f1
    refine ⟨f0, ?_, ⟨rfl, m1, m2, fun e => ?_, fun e => ?_, fun e => ?_, fun e => ?_, fun e => ?_, fun e => absurd e (by decide), z0, n0, z1.1, z1.2, z2.1, z2.2⟩, b2⟩
    · show s.1 = encK _ _ ++ ((nbG pt (nbG pt (txG pt s).2 4).2 4).2).1
      simp only [decK, encK, sNM, sFR, sTO, List.append_assoc]
      rw [← show _ = _ from g2, ← show _ = _ from g1]
      exact g0
    all_goals first | rfl | exact absurd e (by decide)
  · obtain ⟨z0, b0⟩ := nb_bd4 (s := s) hb
    obtain ⟨f0, g0⟩ := nb_inv4 (s := s) hb h
    refine ⟨f0, ?_, ⟨rfl, m1, m2, fun e => ?_, fun e => ?_, fun e => ?_, fun e => ?_, fun e => ?_, fun e => absurd e (by decide), n0, n0, Int.le_refl _, zl, z0.1, z0.2⟩, b0⟩
    · show s.1 = encK _ _ ++ ((nbG pt s 4).2).1
      simp only [decK, encK, sTO]
      exact g0
    all_goals first | rfl | exact absurd e (by decide)

end Go.Proofs.YthkkdmblkalknaaGreatDoor
/-
  Numbers, names and digits as words: no blank, no LF; there and back.
-/
namespace Go.Proofs.YthkkdmblkalknaaGreatDoor
open Go.RowKit

/-- no blank, no LF -/
def plainW (t : List UInt8) : Prop := ∀ b ∈ t, b ≠ 32 ∧ b ≠ 10
theorem digit_val {d : Nat} (h : d < 10) : Lib.digitVal (UInt8.ofNat (48 + d)) = some d := by
  unfold Lib.digitVal
  have e : (UInt8.ofNat (48 + d)).toNat = 48 + d := by
    rw [UInt8.toNat_ofNat']
    omega
  rw [e, if_pos (by omega)]
  simp
theorem decFrom_app : ∀ (l r : List UInt8) (acc u : Nat), Lib.decFrom acc l = some u → Lib.decFrom acc (l ++ r) = Lib.decFrom u r
  | [], r, acc, u, h => by simp [Lib.decFrom] at h; subst h; rfl
  | b :: l, r, acc, u, h => by
    rw [List.cons_append]
    have e1 : ∀ x, Lib.decFrom acc (b :: x) = (match Lib.digitVal b with | some d => Lib.decFrom (acc * 10 + d) x | none => none) := fun _ => rfl
    rw [e1] at h ⊢
    cases hd : Lib.digitVal b with
    | none => rw [hd] at h; cases h
    | some d =>
      rw [hd] at h
      exact decFrom_app l r _ u h
theorem decFrom_digits (u : Nat) : Lib.decFrom 0 (Lib.decDigits u) = some u := by
  induction u using Nat.strongRecOn with
  | _ u ih =>
    rw [Lib.decDigits]
    split
    · rename_i h
      unfold Lib.decFrom
      rw [digit_val h]
      simp [Lib.decFrom]
    · rename_i h
      rw [decFrom_app _ _ _ _ (ih (u / 10) (by omega))]
      unfold Lib.decFrom
      rw [digit_val (by omega)]
      simp only [Lib.decFrom, Option.some.injEq]
      omega
theorem digits_mem (u : Nat) : ∀ c ∈ Lib.decDigits u, 48 ≤ c.toNat ∧ c.toNat ≤ 57 := by
  have one : ∀ d, d < 10 → (UInt8.ofNat (48 + d)).toNat = 48 + d := fun d h => by rw [UInt8.toNat_ofNat']; omega
  induction u using Nat.strongRecOn with
  | _ u ih =>
    intro c hc
    rw [Lib.decDigits] at hc
    split at hc
    · rename_i h
      simp only [List.mem_singleton] at hc
      subst hc
      rw [one u h]; omega
    · rename_i h
      rcases List.mem_append.1 hc with hc | hc
      · exact ih (u / 10) (by omega) c hc
      · simp only [List.mem_singleton] at hc
        subst hc
        rw [one _ (by omega)]; omega
theorem digits_ne (u : Nat) : Lib.decDigits u ≠ [] := by
  rw [Lib.decDigits]
  split <;> simp
theorem digits_len : ∀ (k u : Nat), u < 10 ^ (k + 1) → (Lib.decDigits u).length ≤ k + 1
  | 0, u, h => by
    rw [Lib.decDigits, dif_pos (by simpa using h)]
    simp
  | k + 1, u, h => by
    rw [Lib.decDigits]
    split
    · simp
    · have := digits_len k (u / 10) (by rw [Nat.pow_succ] at h; omega)
      simp only [List.length_append, List.length_cons, List.length_nil]
      omega
theorem numP_itoa {v : Int} (h0 : 0 ≤ v) (h1 : v ≤ 262144) : numP (itoaB v) = (v, true) := by
  obtain ⟨u, rfl⟩ := Int.eq_ofNat_of_zero_le h0
  have e : (itoaB (u : Int)).data.toList = Lib.decDigits u := by
    show (Lib.itoa (u : Int)).toArray.toList = _
    rw [List.toList_toArray, Lib.itoa_nonneg]
  have hlen : (Lib.decDigits u).length ≤ 18 := by
    have := digits_len 5 u (by omega)
    omega
  have ha : Lib.atoiAll (Lib.decDigits u) = .ok (u : Int) := by
    cases hd : Lib.decDigits u with
    | nil => exact absurd hd (digits_ne u)
    | cons c r =>
      have hc := digits_mem u c (by rw [hd]; simp)
      rw [Lib.atoiAll_plain c r (by omega) (by omega), ← hd, Lib.signless_short hlen]
      have : Lib.decNat (Lib.decDigits u) = some u := by
        unfold Lib.decNat
        rw [if_neg (by simp [digits_ne u]), decFrom_digits]
      rw [this]
      rfl
  unfold numP
  rw [e, ha]
  simp
theorem plain_itoa {v : Int} (h0 : 0 ≤ v) : plainW (itoaB v).data.toList := by
  obtain ⟨u, rfl⟩ := Int.eq_ofNat_of_zero_le h0
  have e : (itoaB (u : Int)).data.toList = Lib.decDigits u := by
    show (Lib.itoa (u : Int)).toArray.toList = _
    rw [List.toList_toArray, Lib.itoa_nonneg]
  rw [e]
  intro b hb
  have := digits_mem u b hb
  exact ⟨fun e => by rw [e] at this; revert this; decide, fun e => by rw [e] at this; revert this; decide⟩
theorem plain_name {s : ByteArray} (h : nmB s = true) : plainW s.data.toList := by
  unfold nmB nmd at h
  simp only [Bool.and_eq_true, List.all_eq_true] at h
  intro b hb
  have h2 := h.2 (b.toNat : Int) (by unfold nums; exact List.mem_map.2 ⟨b, hb, rfl⟩)
  exact ⟨fun e => by rw [e] at h2; revert h2; decide, fun e => by rw [e] at h2; revert h2; decide⟩
theorem hx_fin : ∀ n : Fin 16, hxs.getD n.val 0 ≠ 32 ∧ hxs.getD n.val 0 ≠ 10 ∧ hv (hxs.getD n.val 0) = n.val := by decide +kernel
theorem hx_of {n : Nat} (h : n < 16) : hxs.getD n 0 ≠ 32 ∧ hxs.getD n 0 ≠ 10 ∧ hv (hxs.getD n 0) = n := hx_fin ⟨n, h⟩
theorem plain_hex {da : List Int} (h : Pl.isB da) : plainW (hexL da) := by
  intro b hb
  unfold hexL at hb
  obtain ⟨z, hz, hb⟩ := List.mem_flatMap.1 hb
  have := h z hz
  unfold hex1 at hb
  simp only [List.mem_cons, List.not_mem_nil, or_false] at hb
  rcases hb with rfl | rfl
  · exact ⟨(hx_of (by omega)).1, (hx_of (by omega)).2.1⟩
  · exact ⟨(hx_of (by omega)).1, (hx_of (by omega)).2.1⟩
theorem hv_mem {da : List Int} (h : Pl.isB da) : ∀ c ∈ hexL da, 0 ≤ hv c := by
  intro b hb
  unfold hexL at hb
  obtain ⟨z, hz, hb⟩ := List.mem_flatMap.1 hb
  have := h z hz
  unfold hex1 at hb
  simp only [List.mem_cons, List.not_mem_nil, or_false] at hb
  rcases hb with rfl | rfl
  · rw [(hx_of (by omega)).2.2]; omega
  · rw [(hx_of (by omega)).2.2]; omega
theorem unh_hex : ∀ (da : List Int), Pl.isB da → ((List.range da.length).map fun j => 16 * hv ((hexL da).getD (2 * j) 0) + hv ((hexL da).getD (2 * j + 1) 0)) = da
  | [], _ => rfl
  | z :: r, h => by
    have hz := h z (by simp)
    have ih := unh_hex r (fun q hq => h q (by simp [hq]))
    have e : hexL (z :: r) = hxs.getD (z.toNat / 16) 0 :: hxs.getD (z.toNat % 16) 0 :: hexL r := by simp [hexL, hex1]
    rw [List.length_cons, List.range_succ_eq_map, List.map_cons, List.map_map, e]
    have e1 : ((fun j => 16 * hv ((hxs.getD (z.toNat / 16) 0 :: hxs.getD (z.toNat % 16) 0 :: hexL r).getD (2 * j) 0) + hv ((hxs.getD (z.toNat / 16) 0 :: hxs.getD (z.toNat % 16) 0 :: hexL r).getD (2 * j + 1) 0)) ∘ Nat.succ) = fun j => 16 * hv ((hexL r).getD (2 * j) 0) + hv ((hexL r).getD (2 * j + 1) 0) := by
      funext j
      have e2 : 2 * (j + 1) = 2 * j + 1 + 1 := by omega
      simp only [Function.comp_apply, Nat.succ_eq_add_one, e2, List.getD_cons_succ]
    rw [e1, ih]
    congr 1
    show 16 * hv (hxs.getD (z.toNat / 16) 0) + hv (hxs.getD (z.toNat % 16) 0) = z
    rw [(hx_of (n := z.toNat / 16) (by omega)).2.2, (hx_of (n := z.toNat % 16) (by omega)).2.2]
    omega
theorem hex_fwd {da : List Int} (h : Pl.isB da) (hl : da.length = 512) : okHex ⟨(hexL da).toArray⟩ = true ∧ hexB ⟨(hexL da).toArray⟩ = da := by
  have h1 : okHex ⟨(hexL da).toArray⟩ = true := by
    unfold okHex
    simp only [Bool.and_eq_true, decide_eq_true_eq, List.all_eq_true]
    refine ⟨?_, fun c hc => hv_mem h c (by simpa using hc)⟩
    show (hexL da).toArray.size = 1024
    rw [List.size_toArray, len_hexL, hl]
  refine ⟨h1, ?_⟩
  unfold hexB unh
  rw [if_pos h1]
  have e := unh_hex da h
  rw [hl] at e
  conv => rhs; rw [← e]
  refine List.map_congr_left fun j hj => ?_
  have := List.mem_range.1 hj
  rw [if_pos (by omega)]

end Go.Proofs.YthkkdmblkalknaaGreatDoor
/-
  A line that is printed is taken.
-/
namespace Go.Proofs.YthkkdmblkalknaaGreatDoor
open Go.RowKit

theorem ck_n {o : PO} (h : o.ck = 0) {m : Nat} (hm : o.k = m) : (uN m = true → nmB o.nm = true) ∧ (uO m = true → nmB o.ot = true) := by
  have hok := ck_ok (show ckO o.k o.nm o.ot o.fr o.to o.da.length = 0 from h)
  have h' : ckO o.k o.nm o.ot o.fr o.to o.da.length = 0 := h
  unfold ckO at h'
  rw [if_neg (by have := hok.k1; have := hok.k2; omega)] at h'
  rw [hm, Int.toNat_natCast] at h'
  by_cases h1 : isF m o.nm o.ot o.fr o.to o.da.length = false
  · rw [if_pos h1] at h'; cases h'
  rw [if_neg h1] at h'
  by_cases h2 : (uN m && !nmB o.nm) = true
  · rw [if_pos h2] at h'; cases h'
  rw [if_neg h2] at h'
  by_cases h3 : (uO m && !nmB o.ot) = true
  · rw [if_pos h3] at h'; cases h'
  exact ⟨fun e => by rw [e] at h2; simpa using h2, fun e => by rw [e] at h3; simpa using h3⟩
theorem plain_lit {l : List UInt8} (h : l.all (fun b => b != 32 && b != 10) = true) : plainW l := by
  intro b hb
  have := List.all_eq_true.1 h b hb
  simpa using this
set_option maxRecDepth 100000 in
theorem take_fwd {o : PO} {m : Nat} (hF : CkF m o) (hda : Pl.isB o.da) : takeL ((wordsOf m).zip (txts o (wordsOf m))) (kind0 m) = some o := by
  obtain ⟨kk, m1, m2, E1, E2, E3, E4, E5, E6, ok⟩ := hF
  have nf := numP_itoa ok.f0 ok.f1
  have nt := numP_itoa ok.t0 ok.t1
  have hx : uD m = true → okHex ⟨(hexL o.da).toArray⟩ = true ∧ hexB ⟨(hexL o.da).toArray⟩ = o.da := fun e => hex_fwd hda (E6 e)
  rcases nat_kinds m1 m2 with rfl | rfl | rfl | rfl | rfl | rfl | rfl | rfl | rfl | rfl | rfl
  · simp [wordsOf, frm, nw, tl, kw, txts, shownB, takeL, takeP, kind0, nt]
    refine PO.ext' kk.symm ?_ ?_ ?_ ?_ ?_
    all_goals first | rfl | exact (E1 (by decide)).symm | exact (E2 (by decide)).symm | exact (E3 (by decide)).symm | exact (E4 (by decide)).symm | exact (E5 (by decide)).symm
  · simp [wordsOf, frm, nw, tl, kw, txts, shownB, takeL, takeP, kind0]
    refine PO.ext' kk.symm ?_ ?_ ?_ ?_ ?_
    all_goals first | rfl | exact (E1 (by decide)).symm | exact (E2 (by decide)).symm | exact (E3 (by decide)).symm | exact (E4 (by decide)).symm | exact (E5 (by decide)).symm
  · simp [wordsOf, frm, nw, tl, kw, txts, shownB, takeL, takeP, kind0]
    refine PO.ext' kk.symm ?_ ?_ ?_ ?_ ?_
    all_goals first | rfl | exact (E1 (by decide)).symm | exact (E2 (by decide)).symm | exact (E3 (by decide)).symm | exact (E4 (by decide)).symm | exact (E5 (by decide)).symm
  · simp [wordsOf, frm, nw, tl, kw, txts, shownB, takeL, takeP, kind0, nt]
    refine PO.ext' kk.symm ?_ ?_ ?_ ?_ ?_
    all_goals first | rfl | exact (E1 (by decide)).symm | exact (E2 (by decide)).symm | exact (E3 (by decide)).symm | exact (E4 (by decide)).symm | exact (E5 (by decide)).symm
  · simp [wordsOf, frm, nw, tl, kw, txts, shownB, takeL, takeP, kind0]
    refine PO.ext' kk.symm ?_ ?_ ?_ ?_ ?_
    all_goals first | rfl | exact (E1 (by decide)).symm | exact (E2 (by decide)).symm | exact (E3 (by decide)).symm | exact (E4 (by decide)).symm | exact (E5 (by decide)).symm
  · simp [wordsOf, frm, nw, tl, kw, txts, shownB, takeL, takeP, kind0]
    refine PO.ext' kk.symm ?_ ?_ ?_ ?_ ?_
    all_goals first | rfl | exact (E1 (by decide)).symm | exact (E2 (by decide)).symm | exact (E3 (by decide)).symm | exact (E4 (by decide)).symm | exact (E5 (by decide)).symm
  · simp [wordsOf, frm, nw, tl, kw, txts, shownB, takeL, takeP, kind0]
    refine PO.ext' kk.symm ?_ ?_ ?_ ?_ ?_
    all_goals first | rfl | exact (E1 (by decide)).symm | exact (E2 (by decide)).symm | exact (E3 (by decide)).symm | exact (E4 (by decide)).symm | exact (E5 (by decide)).symm
  · simp [wordsOf, frm, nw, tl, kw, txts, shownB, takeL, takeP, kind0, nf, (hx (by decide)).1, (hx (by decide)).2]
    refine PO.ext' kk.symm ?_ ?_ ?_ ?_ ?_
    all_goals first | rfl | exact (E1 (by decide)).symm | exact (E2 (by decide)).symm | exact (E3 (by decide)).symm | exact (E4 (by decide)).symm | exact (E5 (by decide)).symm
  · simp [wordsOf, frm, nw, tl, kw, txts, shownB, takeL, takeP, kind0, nf, nt]
    refine PO.ext' kk.symm ?_ ?_ ?_ ?_ ?_
    all_goals first | rfl | exact (E1 (by decide)).symm | exact (E2 (by decide)).symm | exact (E3 (by decide)).symm | exact (E4 (by decide)).symm | exact (E5 (by decide)).symm
  · simp [wordsOf, frm, nw, tl, kw, txts, shownB, takeL, takeP, kind0, nf, nt]
    refine PO.ext' kk.symm ?_ ?_ ?_ ?_ ?_
    all_goals first | rfl | exact (E1 (by decide)).symm | exact (E2 (by decide)).symm | exact (E3 (by decide)).symm | exact (E4 (by decide)).symm | exact (E5 (by decide)).symm
  · simp [wordsOf, frm, nw, tl, kw, txts, shownB, takeL, takeP, kind0, nt]
    refine PO.ext' kk.symm ?_ ?_ ?_ ?_ ?_
    all_goals first | rfl | exact (E1 (by decide)).symm | exact (E2 (by decide)).symm | exact (E3 (by decide)).symm | exact (E4 (by decide)).symm | exact (E5 (by decide)).symm
set_option maxRecDepth 100000 in
theorem txts_plain {o : PO} {m : Nat} (hF : CkF m o) (hda : Pl.isB o.da) (hn : (uN m = true → nmB o.nm = true) ∧ (uO m = true → nmB o.ot = true)) : ∀ t ∈ txts o (wordsOf m), plainW t.data.toList := by
  intro t ht
  obtain ⟨n1, n2⟩ := hn
  obtain ⟨kk, m1, m2, _, _, _, _, _, _, ok⟩ := hF
  have f0 := ok.f0
  have t0 := ok.t0
  rcases nat_kinds m1 m2 with rfl | rfl | rfl | rfl | rfl | rfl | rfl | rfl | rfl | rfl | rfl
  · simp [wordsOf, frm, nw, tl, kw, txts, shownB] at ht
    rcases ht with rfl | rfl | rfl
    · exact plain_lit (by decide)
    · exact plain_name (n1 (by decide))
    · exact plain_itoa t0
  · simp [wordsOf, frm, nw, tl, kw, txts, shownB] at ht
    rcases ht with rfl | rfl | rfl | rfl
    · exact plain_lit (by decide)
    · exact plain_name (n1 (by decide))
    · exact plain_lit (by decide)
    · exact plain_name (n2 (by decide))
  · simp [wordsOf, frm, nw, tl, kw, txts, shownB] at ht
    rcases ht with rfl | rfl | rfl | rfl
    · exact plain_lit (by decide)
    · exact plain_name (n1 (by decide))
    · exact plain_lit (by decide)
    · exact plain_name (n2 (by decide))
  · simp [wordsOf, frm, nw, tl, kw, txts, shownB] at ht
    rcases ht with rfl | rfl | rfl
    · exact plain_lit (by decide)
    · exact plain_name (n1 (by decide))
    · exact plain_itoa t0
  · simp [wordsOf, frm, nw, tl, kw, txts, shownB] at ht
    rcases ht with rfl | rfl | rfl | rfl
    · exact plain_lit (by decide)
    · exact plain_name (n1 (by decide))
    · exact plain_lit (by decide)
    · exact plain_name (n2 (by decide))
  · simp [wordsOf, frm, nw, tl, kw, txts, shownB] at ht
    rcases ht with rfl | rfl
    · exact plain_lit (by decide)
    · exact plain_name (n1 (by decide))
  · simp [wordsOf, frm, nw, tl, kw, txts, shownB] at ht
    rcases ht with rfl | rfl | rfl | rfl
    · exact plain_lit (by decide)
    · exact plain_name (n1 (by decide))
    · exact plain_lit (by decide)
    · exact plain_name (n2 (by decide))
  · simp [wordsOf, frm, nw, tl, kw, txts, shownB] at ht
    rcases ht with rfl | rfl | rfl | rfl
    · exact plain_lit (by decide)
    · exact plain_name (n1 (by decide))
    · exact plain_itoa f0
    · exact plain_hex hda
  · simp [wordsOf, frm, nw, tl, kw, txts, shownB] at ht
    rcases ht with rfl | rfl | rfl | rfl
    · exact plain_lit (by decide)
    · exact plain_name (n1 (by decide))
    · exact plain_itoa f0
    · exact plain_itoa t0
  · simp [wordsOf, frm, nw, tl, kw, txts, shownB] at ht
    rcases ht with rfl | rfl | rfl | rfl
    · exact plain_lit (by decide)
    · exact plain_name (n1 (by decide))
    · exact plain_itoa f0
    · exact plain_itoa t0
  · simp [wordsOf, frm, nw, tl, kw, txts, shownB] at ht
    rcases ht with rfl | rfl
    · exact plain_lit (by decide)
    · exact plain_itoa t0

end Go.Proofs.YthkkdmblkalknaaGreatDoor
