import Derived.Test.YtlefjidbpjkhlaaGreatN02
import Derived.Test.YtlefjidbpjkhlaaGreatN05
import Derived.Deep.RegionHeld3
import Derived.Test.YtlefjidbpjkhlaaGreatN00
import Derived.Test.YtlefjidbpjkhlaaGreatN01
import Derived.Below
namespace Go.Proofs.YtlefjidbpjkhlaaGreat
open Go.RowKit
def Jb (w : World) (j c : Nat) (fr bl life seq used : Int) (mv : Value) : Prop := w.heap[j]? = some (.cells #[.pointer (some ⟨c, 0, none⟩), .int .i64 fr, .int .i64 bl, .int .i64 life, .int .i64 seq, .int .i64 used, mv] 151 (0, 0))
theorem Jb.lt {w : World} {j c : Nat} {fr bl life seq used : Int} {mv : Value} (h : Jb w j c fr bl life seq used mv) : j < w.heap.size := (Array.getElem?_eq_some_iff.1 h).1
theorem Jb.cell {w : World} {j c : Nat} {fr bl life seq used : Int} {mv : Value} (h : Jb w j c fr bl life seq used mv) (t : Nat) : w.cell? ⟨j, t, none⟩ = #[.pointer (some ⟨c, 0, none⟩), .int .i64 fr, .int .i64 bl, .int .i64 life, .int .i64 seq, .int .i64 used, mv][t]? := by
 unfold Jb at h
 simp [World.cell?, h]
theorem Jb.below {w w' : World} {j c : Nat} {fr bl life seq used : Int} {mv : Value} (h : Jb w j c fr bl life seq used mv) {B : Nat} (hb : Below B w w') (hj : j < B) : Jb w' j c fr bl life seq used mv := (hb.block j hj).trans h
theorem Jb.frozen {w : World} {j c : Nat} {fr bl life seq used : Int} {mv : Value} (h : Jb w j c fr bl life seq used mv) (t : Nat) : w.frozen? ⟨j, t, none⟩ = false := by
 unfold Jb at h
 simp [World.frozen?, h]
theorem jmost_any (fr bl : Int) (lo : 16 ≤ bl) (hi : bl ≤ 524288) (w : World) : Calls Tryz.prog 79 #[.agg #[.int .i64 fr, .int .i64 bl]] w fun e w' => e = .returned (.int .i64 (bl / 2 - 4)) ∧ Below w.heap.size w w' := by
 go_enter Tryz.func79, Tryz.ntmps79
 go_wp2
 go_ret
 exact ⟨rfl, (Below.refl _ _).alloc (Nat.le_refl _) _⟩
theorem jlogRoom_any (fr bl : Int) (lo : 16 ≤ bl) (hi : bl ≤ 524288) (w : World) : Calls Tryz.prog 135 #[.agg #[.int .i64 fr, .int .i64 bl]] w fun e w' => e = .returned (.int .i64 (bl - 1)) ∧ Below w.heap.size w w' := by
 go_enter Tryz.func135, Tryz.ntmps135
 go_wp2
 go_ret
 exact ⟨rfl, (Below.refl _ _).alloc (Nat.le_refl _) _⟩
theorem jlogBlock_any (fr bl i : Int) (lo : 0 ≤ fr) (hi : fr ≤ 524288) (i0 : 0 ≤ i) (i1 : i ≤ 524288) (w : World) : Calls Tryz.prog 137 #[.agg #[.int .i64 fr, .int .i64 bl], .int .i64 i] w fun e w' => e = .returned (.int .i64 (fr + 1 + i)) ∧ Below w.heap.size w w' := by
 go_enter Tryz.func137, Tryz.ntmps137
 go_wp2
 go_ret
 exact ⟨rfl, (Below.refl _ _).alloc (Nat.le_refl _) _⟩
theorem jhas_any (fr bl at_ : Int) (f0 : 0 ≤ fr) (f1 : fr ≤ 524288) (lo : 0 ≤ bl) (hi : bl ≤ 524288) (w : World) : Calls Tryz.prog 177 #[.agg #[.int .i64 fr, .int .i64 bl], .int .i64 at_] w fun e w' => e = .returned (.bool (decide (fr ≤ at_ ∧ at_ < fr + bl))) ∧ Below w.heap.size w w' := by
 have FIN := hid ((Below.refl w.heap.size w).alloc (Nat.le_refl _) (.cells #[.int .i64 fr, .int .i64 bl] 148))
 go_enter Tryz.func177, Tryz.ntmps177
 by_cases h1 : fr ≤ at_
 ·by_cases h2 : at_ < fr + bl
  ·go_wp2
   go_ret
   exact ⟨by simp [h1, h2], FIN.out⟩
  ·go_wp2
   go_ret
   exact ⟨by simp [h2], FIN.out⟩
 ·go_wp2
  go_ret
  exact ⟨by simp; omega, FIN.out⟩
def mostC (bl : Int) : Int := if bl < 16 ∨ 524288 < bl then 40 else 0
set_option maxRecDepth 100000 in
theorem jMost_any (bl : Int) (w : World) : Calls Tryz.prog 194 #[.int .i64 bl] w fun e w' => e = .returned (.tuple #[.int .i64 (if bl < 16 ∨ 524288 < bl then 0 else bl / 2 - 4), .int .i64 (mostC bl)]) ∧ Below w.heap.size w w' := by
 unfold mostC
 have FIN := hid (Below.refl w.heap.size w)
 by_cases h1 : bl < 16
 ·simp only [h1, true_or, if_true]
  go_enter Tryz.func194, Tryz.ntmps194
  go_wp2
  go_ret2
  exact ⟨rfl, FIN.out⟩
 ·by_cases h2 : 524288 < bl
  ·simp only [h2, or_true, if_true]
   go_enter Tryz.func194, Tryz.ntmps194
   go_wp2
   go_ret2
   exact ⟨rfl, FIN.out⟩
  ·simp only [h1, h2, or_self, if_false]
   have H := hid (jmost_any 0 bl (by omega) (by omega) w)
   go_enter Tryz.func194, Tryz.ntmps194
   go_wp2_with fail
   refine Calls.mono H.out ?_
   rintro e w1 ⟨rfl, b1⟩
   have B1 := hid b1
   clear b1
   go_wp2
   go_ret2
   exact ⟨rfl, B1.out⟩
set_option maxRecDepth 100000 in
theorem jask_any {X : Nat → Prop} {w : World} {j c p : Nat} {fr bl life seq used : Int} {mv : Value} {img : List Int} {puts : List (Nat × List Int)} {fu : Int} {off : Bool} {nb : Nat} (hJ : Jb w j c fr bl life seq used mv) (hc : w.cell? ⟨c, 0, none⟩ = some (.pointer (some ⟨p, 0, none⟩))) (hD : Dk X w p img puts fu off nb) :
  Calls Tryz.prog 76 #[.pointer (some ⟨j, 0, none⟩)] w fun e w' => e = .returned (.int .i64 (if off then 24 else 0)) ∧ Below w.heap.size w w' := by
 have H := hid (On_any hD)
 have j0 := hJ.cell 0
 simp at j0
 clear hJ hD
 go_enter Tryz.func76, Tryz.ntmps76
 go_wp2_with fail
 refine Calls.mono H.out ?_
 rintro e w1 ⟨rfl, b1⟩
 have B1 := hid b1
 clear b1 j0 hc
 cases off
 ·go_wp2
  go_ret
  exact ⟨rfl, B1.out⟩
 ·go_wp2
  go_ret
  exact ⟨rfl, B1.out⟩
open Go.RowKit
def placeC (nb : Nat) (fr bl : Int) : Int := if bl < 16 ∨ 524288 < bl then 40 else if fr < 0 ∨ (nb : Int) - bl < fr then 40 else 0
set_option maxRecDepth 100000 in
set_option maxHeartbeats 4000000 in
theorem jcheckPlace_any {X : Nat → Prop} {w : World} {j c p : Nat} {fr bl life seq used : Int} {mv : Value} {img : List Int} {puts : List (Nat × List Int)} {fu : Int} {off : Bool} {nb : Nat} (hJ : Jb w j c fr bl life seq used mv) (hc : w.cell? ⟨c, 0, none⟩ = some (.pointer (some ⟨p, 0, none⟩))) (hcs : c < w.heap.size) (hD : Dk X w p img puts fu off nb) (hnb : nb ≤ 524288) :
  Calls Tryz.prog 162 #[.pointer (some ⟨j, 0, none⟩)] w fun e w' => e = .returned (.int .i64 (placeC nb fr bl)) ∧ Below w.heap.size w w' := by
 have H := hid (jMost_any bl w)
 have j2 := hJ.cell 2
 simp at j2
 have HJ := hid hJ
 have HD := hid hD
 have HC := hid (And.intro hc hcs)
 clear hJ hD hc hcs
 unfold placeC
 unfold mostC at H
 by_cases h1 : bl < 16 ∨ 524288 < bl
 ·simp only [if_pos h1] at H ⊢
  clear h1
  go_enter Tryz.func162, Tryz.ntmps162
  go_wp2_with fail
  refine Calls.mono H.out ?_
  rintro e w1 ⟨rfl, b1⟩
  have B1 := hid b1
  clear b1 j2 H
  go_wp2
  go_ret
  exact ⟨rfl, B1.out⟩
 ·simp only [if_neg h1] at H ⊢
  have i1 : 16 ≤ bl := by omega
  have i2 : bl ≤ 524288 := by omega
  clear h1
  obtain ⟨code, hcode⟩ : ∃ code : Int, code = if fr < 0 ∨ (nb : Int) - bl < fr then 40 else 0 := ⟨_, rfl⟩
  rw [← hcode]
  have HCd := hid hcode
  clear hcode
  go_enter Tryz.func162, Tryz.ntmps162
  go_wp2_with fail
  refine Calls.mono H.out ?_
  rintro e w1 ⟨rfl, b1⟩
  have B1 := hid b1
  have hJ1 := HJ.out.below b1 HJ.out.lt
  have j0 := hJ1.cell 0
  have j1 := hJ1.cell 1
  have j2' := hJ1.cell 2
  simp at j0 j1 j2'
  have c0 := (b1.cell (p := ⟨c, 0, none⟩) HC.out.2).trans HC.out.1
  have HB := hid (Blocks_any (HD.out.below b1))
  clear b1 j2 hJ1 H
  go_wp2_with fail
  refine Calls.mono HB.out ?_
  rintro e w2 ⟨rfl, hw2⟩
  rw [hw2]
  clear hw2 HB
  by_cases h2 : fr < 0
  ·have hc := HCd.out
   rw [if_pos (.inl h2)] at hc
   subst hc
   clear HCd
   go_wp2_with fail
   go_region
   all_goals
    go_wp2
    go_ret
    exact ⟨rfl, by simpa using B1.out.drew⟩
  ·obtain ⟨f, rfl⟩ : ∃ f : Nat, fr = (f : Int) := ⟨fr.toNat, by omega⟩
   clear h2
   have hw : IntKind.i64.wrap ((nb : Int) - bl) = (nb : Int) - bl := by rw [IntKind.wrap_i64]; omega
   by_cases h3 : (nb : Int) - bl < f
   ·have hc := HCd.out
    rw [if_pos (.inr h3)] at hc
    subst hc
    clear HCd HJ HD HC j0 c0
    go_wp2_with fail
    go_region_held3 (fun w' => w'.cell? ⟨j, 1, none⟩ = some (.int .i64 (f : Int)) ∧ w'.cell? ⟨j, 2, none⟩ = some (.int .i64 bl)) (first | (exact ⟨by assumption, by assumption⟩) | go_keep) (fail)
    go_wp2
    go_ret
    exact ⟨rfl, by simpa using B1.out.drew⟩
   ·have hc := HCd.out
    rw [if_neg (by omega)] at hc
    subst hc
    clear HCd HJ HD HC j0 c0
    go_wp2_with fail
    go_region_held3 (fun w' => w'.cell? ⟨j, 1, none⟩ = some (.int .i64 (f : Int)) ∧ w'.cell? ⟨j, 2, none⟩ = some (.int .i64 bl)) (first | (exact ⟨by assumption, by assumption⟩) | go_keep) (fail)
    go_wp2
    go_ret
    exact ⟨rfl, by simpa using B1.out.drew⟩
open Go.RowKit
def homeC (nb : Nat) (fr bl at_ : Int) : Int := if at_ < 0 ∨ (nb : Int) ≤ at_ ∨ (fr ≤ at_ ∧ at_ < fr + bl) then 42 else 0
set_option maxRecDepth 100000 in
set_option maxHeartbeats 1000000 in
theorem jcheckHome_any {X : Nat → Prop} {w : World} {j c p : Nat} {fr bl life seq used : Int} {mv : Value} {img : List Int} {puts : List (Nat × List Int)} {fu : Int} {off : Bool} {nb : Nat} (hJ : Jb w j c fr bl life seq used mv) (hc : w.cell? ⟨c, 0, none⟩ = some (.pointer (some ⟨p, 0, none⟩))) (hD : Dk X w p img puts fu off nb) (hf : 0 ≤ fr) (hf1 : fr ≤ 524288) (hb0 : 0 ≤ bl) (hb : bl ≤ 524288) (at_ : Int) :
  Calls Tryz.prog 134 #[.pointer (some ⟨j, 0, none⟩), .int .i64 at_] w fun e w' => e = .returned (.int .i64 (homeC nb fr bl at_)) ∧ Below w.heap.size w w' := by
 have HB := hid (Blocks_any hD)
 have HH := hid (fun w => jhas_any fr bl at_ hf hf1 hb0 hb w)
 obtain ⟨code, hcode⟩ : ∃ code : Int, code = homeC nb fr bl at_ := ⟨_, rfl⟩
 rw [← hcode]
 unfold homeC at hcode
 have HCd := hid hcode
 have j0 := hJ.cell 0
 have j1 := hJ.cell 1
 have j2 := hJ.cell 2
 simp at j0 j1 j2
 clear hJ hD hcode
 go_enter Tryz.func134, Tryz.ntmps134
 go_wp2_with fail
 refine Calls.mono HB.out ?_
 rintro e w2 ⟨rfl, hw2⟩
 rw [hw2]
 clear hw2 HB j0 hc
 by_cases h2 : at_ < 0
 ·have hc := HCd.out
  rw [if_pos (.inl h2)] at hc
  subst hc
  clear HCd
  go_wp2
  go_ret
  exact ⟨rfl, Below.refl _ _⟩
 ·by_cases h3 : (nb : Int) ≤ at_
  ·have hc := HCd.out
   rw [if_pos (.inr (.inl h3))] at hc
   subst hc
   clear HCd
   go_wp2
   go_ret
   exact ⟨rfl, Below.refl _ _⟩
  ·have HH2 := hid (HH.out w)
   clear HH
   by_cases h4 : fr ≤ at_ ∧ at_ < fr + bl
   ·have hc := HCd.out
    rw [if_pos (.inr (.inr h4))] at hc
    subst hc
    simp only [decide_eq_true h4] at HH2
    clear HCd h4
    go_wp2_with fail
    refine Calls.mono HH2.out ?_
    rintro e w3 ⟨rfl, b3⟩
    have B3 := hid b3
    clear b3 HH2
    go_wp2
    go_ret
    exact ⟨rfl, B3.out⟩
   ·have hc := HCd.out
    rw [if_neg (by omega)] at hc
    subst hc
    simp only [decide_eq_false h4] at HH2
    clear HCd h4
    go_wp2_with fail
    refine Calls.mono HH2.out ?_
    rintro e w3 ⟨rfl, b3⟩
    have B3 := hid b3
    clear b3 HH2
    go_wp2
    go_ret
    exact ⟨rfl, B3.out⟩
theorem jtakesMore_any {w : World} {j c : Nat} {fr bl life seq used : Int} {mv : Value} (hJ : Jb w j c fr bl life seq used mv) : Calls Tryz.prog 80 #[.pointer (some ⟨j, 0, none⟩)] w fun e w' => e = .returned (.bool (decide (seq < 1099511627776))) ∧ w' = w := by
 have j4 := hJ.cell 4
 simp at j4
 clear hJ
 go_enter Tryz.func80, Tryz.ntmps80
 go_wp2
 go_ret
 exact ⟨rfl, rfl⟩
open Go.RowKit
def Turn (k : Nat) (Q : Ending → World → Prop) : List (Nat × Value) → World → Prop
 | [], w => Q (.returned (.int .i64 0)) w
 | f :: fs, w => Calls Tryz.prog f.1 #[f.2] w fun e w' => ∃ code : Int, e = .returned (.int .i64 code) ∧ (code ≠ 0 → Q e w') ∧ (code = 0 → w'.heap[k]? = w.heap[k]? ∧ Turn k Q fs w')
theorem cell_block {w w' : World} {k : Nat} (h : w'.heap[k]? = w.heap[k]?) (t : Nat) : w'.cell? ⟨k, t, none⟩ = w.cell? ⟨k, t, none⟩ := by simp [World.cell?, h]
set_option maxRecDepth 100000 in
set_option maxHeartbeats 1000000 in
theorem inTurn_any {k : Nat} {Q : Ending → World → Prop} (fs : List (Nat × Value)) (hn : fs.length ≤ 16) (hf : ∀ (i : Nat) (g : Nat × Value), fs[i]? = some g → g.1 = 124 ∨ g.1 = 125 ∨ g.1 = 126 ∨ g.1 = 127 ∨ g.1 = 120 ∨ g.1 = 121 ∨ g.1 = 122 ∨ g.1 = 123 ∨ g.1 = 76 ∨ g.1 = 162 ∨ g.1 = 171 ∨ g.1 = 172 ∨ g.1 = 204) (w : World) (hc : ∀ i f, fs[i]? = some f → w.cell? ⟨k, i, none⟩ = some (.func (.func f.1) #[f.2] #[])) (H : Turn k Q fs w) :
  Calls Tryz.prog 119 #[.slice (some ⟨k, 0, none⟩) fs.length fs.length] w Q := by
 have HF := hid hf
 clear hf
 have HC := hid hc
 have HT := hid H
 clear hc H
 generalize hL : fs.length = n at *
 go_enter Tryz.func119, Tryz.ntmps119
 go_wp2_with fail
 go_loopw [8] (fun i wr => ∃ q : Nat, q ≤ n ∧ i = .int .i64 (q : Int) ∧ (∀ i f, fs[i]? = some f → wr.cell? ⟨k, i, none⟩ = some (.func (.func f.1) #[f.2] #[])) ∧ Turn k Q (fs.drop q) wr) (fun i _ => n - (intOf i).toNat)
 case atStart => exact ⟨0, Nat.zero_le _, rfl, HC.out, HT.out⟩
 case round =>
  clear HC HT
  obtain ⟨q, hq, rfl, hcl, hT⟩ := hrel
  by_cases hqn : q < n
  ·have hqL : q < fs.length := by omega
   have hd : fs.drop q = fs[q] :: fs.drop (q + 1) := List.drop_eq_getElem_cons hqL
   have e0 := hcl q fs[q] (List.getElem?_eq_getElem hqL)
   have hfq := HF.out q fs[q] (List.getElem?_eq_getElem hqL)
   rw [hd] at hT
   have HT := hid hT
   have HC := hid hcl
   have hqn' : (q : Int) < (n : Int) := by omega
   clear hT hcl hd
   generalize fs[q] = g at *
   obtain ⟨f, r⟩ := g
   simp only at e0 hfq
   have HT2 : Hid (Calls Tryz.prog f #[r] wr fun e w' => ∃ code : Int, e = .returned (.int .i64 code) ∧ (code ≠ 0 → Q e w') ∧ (code = 0 → w'.heap[k]? = wr.heap[k]? ∧ Turn k Q (fs.drop (q + 1)) w')) := HT.out
   clear HT HF
   rcases hfq with rfl | rfl | rfl | rfl | rfl | rfl | rfl | rfl | rfl | rfl | rfl | rfl | rfl
   all_goals
    go_wp2_with fail
    refine Calls.mono HT2.out ?_
    rintro e w2 ⟨code, rfl, h1, h2⟩
    have H1 := hid h1
    have H2 := hid h2
    clear h1 h2 HT2 e0
    by_cases hz : code = 0
    ·have H3 := hid (H2.out hz)
     clear H1 H2
     subst hz
     go_wp2_with fail
     go_roundw
     case rel => exact ⟨q + 1, by omega, by go_num, fun i f hi => (cell_block H3.out.1 i).trans (HC.out i f hi), H3.out.2⟩
     case measure => simp [intOf]; omega
    ·go_wp2
     first | exact H1.out hz | (go_ret; exact H1.out hz)
  ·have hqn' : ¬ (q : Int) < (n : Int) := by omega
   have hq2 : fs.drop q = [] := List.drop_eq_nil_of_le (by omega)
   rw [hq2] at hT
   have HT : Hid (Q (.returned (.int .i64 0)) wr) := hT
   clear hT hcl HF
   go_wp2
   first | exact HT.out | (go_ret; exact HT.out)
open Go.RowKit
theorem zA {α : Type} (l : List α) (i : Nat) (a : α) : l.toArray.setIfInBounds i a = (l.set i a).toArray := by simp only [List.setIfInBounds_toArray]
theorem zB {α : Type} (l : List α) (a b : α) : (a :: l).set 0 b = b :: l := rfl
theorem zC {α : Type} (l : List α) (n : Nat) (a b : α) : (a :: l).set (n + 1) b = a :: l.set n b := rfl
theorem tk {P : Program} {ops : Array Oper} {Q : Exit → Act → World → Prop} {md : Region.Mode} {S : World → Prop} {po : String} {af : Array Edge} {v : Value} {fuel : Nat} {listed : Array Bool} {a : Act} {w : World} (i : Nat) (d : Option Tmp) (o : Op) (t : TypeId) (g : Option (Nat × Bool)) (hS : S w)
  (h : wpAnyH P md ops Q S fuel (listed.setIfInBounds i true) (a.put d v) w) (hi : ops[i]? = some ⟨d, o, t, po, af, g⟩ := by rfl)
  (hk : (Region.noSelect ops && (Region.free md ops listed i && (Region.ready md ops listed).contains i)) = true := by kernel_rfl) (hQ : ∀ c a w, Q (.panic c) (a.put d v) w → Q (.panic c) a w := by exact fun _ _ _ h => h) (hw : Region.wanted ⟨d, o, t, po, af, g⟩ (yielded ops a.tmps) = true := by rfl) (hy : ∀ w, S w → (execOp a.eval ⟨d, o, t, po, af, g⟩).run P w = .ok (.value v) w := by (intro a h; (try dsimp only at h); (try go_split_ands); go_simp; try with_reducible rfl)) : wpAnyH P md ops Q S (fuel + 1) listed a w := by
 simp only [Bool.and_eq_true] at hk
 exact wpAnyH_take hi hk.1 hk.2.1 hk.2.2 hQ (Or.inl ⟨hw, hy⟩) hS h
theorem sk {P : Program} {ops : Array Oper} {Q : Exit → Act → World → Prop} {md : Region.Mode} {S : World → Prop} {po : String} {af : Array Edge} {fuel : Nat} {listed : Array Bool} {a : Act} {w : World} (i : Nat) (d : Option Tmp) (o : Op) (t : TypeId) (g : Option (Nat × Bool)) (hS : S w)
  (h : wpAnyH P md ops Q S fuel (listed.setIfInBounds i true) (a.put d undef) w) (hi : ops[i]? = some ⟨d, o, t, po, af, g⟩ := by rfl)
  (hk : (Region.noSelect ops && (Region.free md ops listed i && (Region.ready md ops listed).contains i)) = true := by kernel_rfl) (hQ : ∀ c a w, Q (.panic c) (a.put d undef) w → Q (.panic c) a w := by exact fun _ _ _ h => h) (hw : Region.wanted ⟨d, o, t, po, af, g⟩ (yielded ops a.tmps) = false := by rfl) : wpAnyH P md ops Q S (fuel + 1) listed a w := by
 simp only [Bool.and_eq_true] at hk
 exact wpAnyH_take hi hk.1 hk.2.1 hk.2.2 hQ (Or.inr ⟨hw, rfl⟩) hS h
theorem tj {P : Program} {ops : Array Oper} {Q : Exit → Act → World → Prop} {md : Region.Mode} {S : World → Prop} {oi : Oper} {v : Value} {fuel : Nat} {listed : Array Bool} {a : Act} {w : World} (i : Nat) (hi : ops[i]? = some oi) (hS : S w)
  (h : wpAnyH P md ops Q S fuel (listed.setIfInBounds i true) (a.put oi.dst v) w)
  (hk : (Region.noSelect ops && (Region.free md ops listed i && (Region.ready md ops listed).contains i)) = true := by kernel_rfl) (hQ : ∀ c a w, Q (.panic c) (a.put oi.dst v) w → Q (.panic c) a w := by exact fun _ _ _ h => h) (hw : Region.wanted oi (yielded ops a.tmps) = true := by rfl) (hy : ∀ w, S w → (execOp a.eval oi).run P w = .ok (.value v) w := by (intro a h; (try dsimp only at h); (try go_split_ands); go_simp; try with_reducible rfl)) : wpAnyH P md ops Q S (fuel + 1) listed a w := by
 simp only [Bool.and_eq_true] at hk
 exact wpAnyH_take hi hk.1 hk.2.1 hk.2.2 hQ (Or.inl ⟨hw, hy⟩) hS h
theorem Ti {P : Program} {ops : Array Oper} {Q : Exit → Act → World → Prop} {md : Region.Mode} {S : World → Prop} {po : String} {af : Array Edge} {fuel : Nat} {listed : Array Bool} {a : Act} {w : World} {d : Option Tmp} {o : Op} {t : TypeId} {g : Option (Nat × Bool)} {v : Value} (i : Nat) (hi : ops[i]? = some ⟨d, o, t, po, af, g⟩)
  (h : wpAnyH P md ops Q S fuel (listed.setIfInBounds i true) (a.put d v) w)
  (hS : S w := by assumption) (hk : (Region.noSelect ops && (Region.free md ops listed i && (Region.ready md ops listed).contains i)) = true := by kernel_rfl) (hQ : ∀ c a w, Q (.panic c) (a.put d v) w → Q (.panic c) a w := by exact fun _ _ _ h => h) (hw : Region.wanted ⟨d, o, t, po, af, g⟩ (yielded ops a.tmps) = true := by rfl) (hy : ∀ w, S w → (execOp a.eval ⟨d, o, t, po, af, g⟩).run P w = .ok (.value v) w := by (intro a h; (try dsimp only at h); (try go_split_ands); go_simp; try with_reducible rfl)) : wpAnyH P md ops Q S (fuel + 1) listed a w := by
 simp only [Bool.and_eq_true] at hk
 exact wpAnyH_take hi hk.1 hk.2.1 hk.2.2 hQ (Or.inl ⟨hw, hy⟩) hS h
theorem Si {P : Program} {ops : Array Oper} {Q : Exit → Act → World → Prop} {md : Region.Mode} {S : World → Prop} {po : String} {af : Array Edge} {fuel : Nat} {listed : Array Bool} {a : Act} {w : World} {d : Option Tmp} {o : Op} {t : TypeId} {g : Option (Nat × Bool)} (i : Nat) (hi : ops[i]? = some ⟨d, o, t, po, af, g⟩)
  (h : wpAnyH P md ops Q S fuel (listed.setIfInBounds i true) (a.put d undef) w)
  (hS : S w := by assumption) (hk : (Region.noSelect ops && (Region.free md ops listed i && (Region.ready md ops listed).contains i)) = true := by kernel_rfl) (hQ : ∀ c a w, Q (.panic c) (a.put d undef) w → Q (.panic c) a w := by exact fun _ _ _ h => h) (hw : Region.wanted ⟨d, o, t, po, af, g⟩ (yielded ops a.tmps) = false := by rfl) : wpAnyH P md ops Q S (fuel + 1) listed a w := by
 simp only [Bool.and_eq_true] at hk
 exact wpAnyH_take hi hk.1 hk.2.1 hk.2.2 hQ (Or.inr ⟨hw, rfl⟩) hS h
theorem Ri {P : Program} {ops : Array Oper} {Q : Exit → Act → World → Prop} {md : Region.Mode} {S : World → Prop} {po : String} {af : Array Edge} {fuel : Nat} {listed : Array Bool} {a : Act} {w : World} {d : Option Tmp} {o : Op} {t : TypeId} {g : Option (Nat × Bool)} (i : Nat) (ho : ops[i]? = some ⟨d, o, t, po, af, g⟩)
  (h : ∀ K' : Act → World → Prop, Shut (∀ a w, S w → (S w → wpAnyH P md ops Q S fuel (listed.setIfInBounds i true) a w) → K' a w) → if Region.wanted ⟨d, o, t, po, af, g⟩ (yielded ops a.tmps) = true then Oper.wp P ⟨d, o, t, po, af, g⟩ a w K' Q else K' (a.put d undef) w) (hr : Region.ready md ops listed = [i] := by kernel_rfl) : wpAnyH P md ops Q S (fuel + 1) listed a w := wpAnyH_ready hr (by simp) (AllReadyH.cons ho h AllReadyH.nil)
theorem Rr {P : Program} {ops : Array Oper} {Q : Exit → Act → World → Prop} {md : Region.Mode} {S : World → Prop} {po p2 : String} {af f2 : Array Edge} {fuel : Nat} {listed : Array Bool} {a : Act} {w : World} {d d2 : Option Tmp} {o o2 : Op} {t t2 : TypeId} {g g2 : Option (Nat × Bool)} (i k : Nat) (ho : ops[i]? = some ⟨d, o, t, po, af, g⟩) (hp : ops[k]? = some ⟨d2, o2, t2, p2, f2, g2⟩) (h : ∀ K' : Act → World → Prop, Shut (∀ a w, S w → (S w → wpAnyH P md ops Q S fuel (listed.setIfInBounds i true) a w) → K' a w) → if Region.wanted ⟨d, o, t, po, af, g⟩ (yielded ops a.tmps) = true then Oper.wp P ⟨d, o, t, po, af, g⟩ a w K' Q else K' (a.put d undef) w) (h2 : ∀ K' : Act → World → Prop, Shut (∀ a w, S w → (S w → wpAnyH P md ops Q S fuel (listed.setIfInBounds k true) a w) → K' a w) → if Region.wanted ⟨d2, o2, t2, p2, f2, g2⟩ (yielded ops a.tmps) = true then Oper.wp P ⟨d2, o2, t2, p2, f2, g2⟩ a w K' Q else K' (a.put d2 undef) w) (hr : Region.ready md ops listed = [i, k] := by kernel_rfl) : wpAnyH P md ops Q S (fuel + 1) listed a w := wpAnyH_ready hr (by simp) (AllReadyH.cons ho h (AllReadyH.cons hp h2 AllReadyH.nil))
theorem Gz {P : Program} {ops : Array Oper} {Q : Exit → Act → World → Prop} {S : World → Prop} {id : Nat} {a : Act} {w : World} (hS : S w.drew) (h : S w.drew → wpAnyH P .any ops Q S ops.size (Array.replicate ops.size false) a w.drew) (hm : P.follows .mixedOrders = true := by kernel_rfl) : (Code.region id ops true).wp P Q a w := wp_region_held_drew hm hS h
theorem Dn {P : Program} {ops : Array Oper} {Q : Exit → Act → World → Prop} {md : Region.Mode} {S : World → Prop} {fuel : Nat} {listed : Array Bool} {a : Act} {w : World} (h : Q .normal a w) (hr : Region.ready md ops listed = [] := by kernel_rfl) : wpAnyH P md ops Q S fuel listed a w := wpAnyH_done hr h _
open Go.RowKit
def partsN (c s : Nat) : Nat := (c + s - 1) / s
def countsN (r : Nat) : Nat := partsN r 480
def indexN (r : Nat) : Nat := partsN (countsN r) 60
def pagesN (r : Nat) : Nat := indexN r + countsN r
theorem pagesN_lo {r : Nat} (h : 1 ≤ r) : 1 ≤ pagesN r := by unfold pagesN indexN countsN partsN; omega
theorem pagesN_hi {r : Nat} (h : 1 ≤ r) : pagesN r ≤ r / 256 + 2 := by unfold pagesN indexN countsN partsN; omega
theorem pagesN_mono {a b : Nat} (h : a ≤ b) : pagesN a ≤ pagesN b := by unfold pagesN indexN countsN partsN; omega
theorem countsN_le {r : Nat} (h : r ≤ 262144) : countsN r ≤ 547 := by unfold countsN partsN; omega
theorem indexN_le {r : Nat} (h : r ≤ 262144) : indexN r ≤ 10 := by have := countsN_le h; unfold indexN partsN; omega
set_option maxRecDepth 100000 in
set_option maxHeartbeats 4000000 in
theorem parts_any (c s : Nat) (hc : c ≤ 1048576) (hs : 0 < s) (hs2 : s ≤ 1048576) (w : World) : Calls Tryz.prog 139 #[.int .i64 (c : Int), .int .i64 (s : Int)] w fun e w' => e = .returned (.int .i64 (partsN c s : Int)) ∧ w' = w := by
 have hs0 : ¬ (s : Int) = 0 := by omega
 have hle : partsN c s ≤ c + s := by unfold partsN; exact Nat.le_trans (Nat.div_le_self _ _) (by omega)
 have htd : ((c : Int) + (s : Int) - 1).tdiv (s : Int) = (partsN c s : Int) := by
  rw [Int.tdiv_eq_ediv_of_nonneg (by omega)]
  unfold partsN
  rw [show (c : Int) + (s : Int) - 1 = ((c + s - 1 : Nat) : Int) by omega]
  rfl
 go_enter Tryz.func139, Tryz.ntmps139
 go_wp2
 go_ret
 exact ⟨rfl, rfl⟩
set_option maxRecDepth 100000 in
set_option maxHeartbeats 4000000 in
theorem counts_any (f : Int) (r : Nat) (hr : r ≤ 262144) (w : World) : Calls Tryz.prog 85 #[.agg #[.int .i64 f, .int .i64 (r : Int)]] w fun e w' => e = .returned (.int .i64 (countsN r : Int)) ∧ Below w.heap.size w w' := by
 obtain ⟨w0, hw0⟩ : ∃ w0, w0 = w.alloc (.cells #[.int .i64 f, .int .i64 (r : Int)] 92) := ⟨_, rfl⟩
 have b0 : Below w.heap.size w w0 := by rw [hw0]; exact (Below.refl _ _).alloc (Nat.le_refl _) _
 have HP := hid (parts_any r 480 (by omega) (by omega) (by omega) w0)
 have HW := hid hw0
 have k1 : w0.cell? ⟨w.heap.size, 1, none⟩ = some (.int .i64 (r : Int)) := by rw [hw0]; exact cell_new rfl 1 _ rfl
 have B0 := hid b0
 clear hw0 b0
 go_enter Tryz.func85, Tryz.ntmps85
 go_wp2_with fail
 (try rw [← HW.out])
 (try go_wp2_with fail)
 refine Calls.mono HP.out ?_
 rintro e w1 ⟨rfl, rfl⟩
 go_wp2
 go_ret
 exact ⟨rfl, B0.out⟩
set_option maxRecDepth 100000 in
set_option maxHeartbeats 4000000 in
theorem index_any (f : Int) (r : Nat) (hr : r ≤ 262144) (w : World) : Calls Tryz.prog 84 #[.agg #[.int .i64 f, .int .i64 (r : Int)]] w fun e w' => e = .returned (.int .i64 (indexN r : Int)) ∧ Below w.heap.size w w' := by
 obtain ⟨w0, hw0⟩ : ∃ w0, w0 = w.alloc (.cells #[.int .i64 f, .int .i64 (r : Int)] 92) := ⟨_, rfl⟩
 have b0 : Below w.heap.size w w0 := by rw [hw0]; exact (Below.refl _ _).alloc (Nat.le_refl _) _
 have HC := hid (counts_any f r hr w0)
 have HP := hid (fun w1 => parts_any (countsN r) 60 (by have := countsN_le hr; omega) (by omega) (by omega) w1)
 have HW := hid hw0
 have k0 : w0.cell? ⟨w.heap.size, 0, none⟩ = some (.int .i64 f) := by rw [hw0]; exact cell_new rfl 0 _ rfl
 have k1 : w0.cell? ⟨w.heap.size, 1, none⟩ = some (.int .i64 (r : Int)) := by rw [hw0]; exact cell_new rfl 1 _ rfl
 have B0 := hid b0
 clear hw0 b0
 go_enter Tryz.func84, Tryz.ntmps84
 go_wp2_with fail
 (try rw [← HW.out])
 (try go_wp2_with fail)
 refine Calls.mono HC.out ?_
 rintro e w1 ⟨rfl, b1⟩
 have B1 : Hid (Below w.heap.size w w1) := B0.out.trans (b1.mono B0.out.size)
 clear b1 HC k0 k1 B0 HW
 go_wp2_with fail
 refine Calls.mono (HP.out w1) ?_
 rintro e w2 ⟨rfl, rfl⟩
 go_wp2
 go_ret
 exact ⟨rfl, B1.out⟩
set_option maxRecDepth 100000 in
set_option maxHeartbeats 4000000 in
theorem pages_any (f : Int) (r : Nat) (hr : r ≤ 262144) (w : World) : Calls Tryz.prog 45 #[.agg #[.int .i64 f, .int .i64 (r : Int)]] w fun e w' => e = .returned (.int .i64 (pagesN r : Int)) ∧ Below w.heap.size w w' := by
 obtain ⟨pk, hpk⟩ : ∃ pk, pk = w.heap.size := ⟨_, rfl⟩
 obtain ⟨w0, hw0⟩ : ∃ w0, w0 = w.alloc (.cells #[.int .i64 f, .int .i64 (r : Int)] 92) := ⟨_, rfl⟩
 have b0 : Below w.heap.size w w0 := by rw [hw0]; exact (Below.refl _ _).alloc (Nat.le_refl _) _
 have z0 : w0.heap.size = w.heap.size + 1 := by rw [hw0]; simp
 have hci := countsN_le hr
 have hii := indexN_le hr
 have cN : ∀ t v, #[Value.int .i64 f, .int .i64 (r : Int)][t]? = some v → w0.cell? ⟨pk, t, none⟩ = some v := fun t v hv => by rw [hw0, hpk]; exact cell_new rfl t _ hv
 have k0 := cN 0 _ rfl
 have k1 := cN 1 _ rfl
 have HI : Hid (Calls Tryz.prog 84 #[.agg #[.int .i64 f, .int .i64 (r : Int)]] w0.drew fun e w1 => e = .returned (.int .i64 (indexN r : Int)) ∧ (w1.cell? ⟨pk, 0, none⟩ = some (.int .i64 f) ∧ w1.cell? ⟨pk, 1, none⟩ = some (.int .i64 (r : Int))) ∧ Calls Tryz.prog 85 #[.agg #[.int .i64 f, .int .i64 (r : Int)]] w1 fun e w2 => e = .returned (.int .i64 (countsN r : Int)) ∧ (w2.cell? ⟨pk, 0, none⟩ = some (.int .i64 f) ∧ w2.cell? ⟨pk, 1, none⟩ = some (.int .i64 (r : Int))) ∧ Below w.heap.size w w2) := by
  refine Calls.mono (index_any f r hr w0.drew) ?_
  rintro e w1 ⟨rfl, b1⟩
  have b1' : Below w0.heap.size w0 w1 := (Below.refl _ _).drew.trans b1
  have K1 : ∀ t, w1.cell? ⟨pk, t, none⟩ = w0.cell? ⟨pk, t, none⟩ := fun t => b1'.cell (p := ⟨pk, t, none⟩) (by show pk < _; omega)
  refine ⟨rfl, ⟨(K1 0).trans k0, (K1 1).trans k1⟩, Calls.mono (counts_any f r hr w1) ?_⟩
  rintro e w2 ⟨rfl, b2⟩
  have s1 := b1'.size
  have K2 : ∀ t, w2.cell? ⟨pk, t, none⟩ = w1.cell? ⟨pk, t, none⟩ := fun t => b2.cell (p := ⟨pk, t, none⟩) (by show pk < _; omega)
  exact ⟨rfl, ⟨(K2 0).trans ((K1 0).trans k0), (K2 1).trans ((K1 1).trans k1)⟩, b0.trans ((b1'.mono (by omega)).trans (b2.mono (by omega)))⟩
 have HW := hid hw0
 have HK := hid hpk
 have hsum : (indexN r : Int) + (countsN r : Int) = (pagesN r : Int) := by unfold pagesN; omega
 have hwr : IntKind.i64.wrap (pagesN r : Int) = (pagesN r : Int) := by rw [IntKind.wrap_i64]; omega
 clear hw0 b0 hpk cN z0
 go_enter Tryz.func45, Tryz.ntmps45
 go_wp2_with fail
 rw [← HW.out, ← HK.out]
 refine Gz (S := fun w' => w'.cell? ⟨pk, 0, none⟩ = some (.int .i64 f) ∧ w'.cell? ⟨pk, 1, none⟩ = some (.int .i64 (r : Int))) ⟨k0, k1⟩ (fun hSS => ?_)
 refine Ti 0 rfl ?_
 refine Ti 2 rfl ?_
 try simp only [Act.put, zA, zB, zC]
 refine Ri 1 rfl (fun K9 hK9 => ?_)
 go_simp
 go_at_call 84
 refine Calls.mono HI.out ?_
 rintro e w1 ⟨rfl, hk1, h2⟩
 have H2 := hid h2
 clear h2 HI
 refine hK9.out _ _ hk1 (fun hSS => ?_)
 try simp only [Act.put, zA, zB, zC]
 refine Ri 3 rfl (fun K9 hK9 => ?_)
 go_simp
 go_at_call 85
 refine Calls.mono H2.out ?_
 rintro e w2 ⟨rfl, hk2, h3⟩
 refine hK9.out _ _ hk2 (fun hSS => ?_)
 try simp only [Act.put, zA, zB, zC]
 refine Ti 4 rfl ?_
 refine Ti 5 rfl ?_
 try simp only [Act.put, zA, zB, zC]
 refine Dn ?_
 clear hSS
 go_wp2
 go_ret
 exact ⟨rfl, h3⟩
set_option maxRecDepth 100000 in
set_option maxHeartbeats 4000000 in
theorem isRoom_any (r : Int) (w : World) : Calls Tryz.prog 44 #[.int .i64 r] w fun e w' => e = .returned (.bool (decide (1 ≤ r ∧ r ≤ 262144))) ∧ w' = w := by
 by_cases h1 : 1 ≤ r
 ·by_cases h2 : r ≤ 262144
  ·have hd : decide (1 ≤ r ∧ r ≤ 262144) = true := decide_eq_true ⟨h1, h2⟩
   rw [hd]
   clear hd
   go_enter Tryz.func44, Tryz.ntmps44
   go_wp2
   go_ret
   exact ⟨rfl, rfl⟩
  ·have hd : decide (1 ≤ r ∧ r ≤ 262144) = false := decide_eq_false (fun q => h2 q.2)
   rw [hd]
   clear hd
   go_enter Tryz.func44, Tryz.ntmps44
   go_wp2
   go_ret
   exact ⟨rfl, rfl⟩
 ·have hd : decide (1 ≤ r ∧ r ≤ 262144) = false := decide_eq_false (fun q => h1 q.1)
  rw [hd]
  clear hd
  go_enter Tryz.func44, Tryz.ntmps44
  go_wp2
  go_ret
  exact ⟨rfl, rfl⟩
def blkN (r : Int) : Int × Int := if 1 ≤ r ∧ r ≤ 262144 then ((pagesN r.toNat : Int), 0) else (0, 60)
set_option maxRecDepth 100000 in
set_option maxHeartbeats 4000000 in
theorem SBlocks_any (r : Int) (w : World) : Calls Tryz.prog 15 #[.int .i64 r] w fun e w' => e = .returned (.tuple #[.int .i64 (blkN r).1, .int .i64 (blkN r).2]) ∧ Below w.heap.size w w' := by
 have HR := hid (isRoom_any r w)
 by_cases h : 1 ≤ r ∧ r ≤ 262144
 ·obtain ⟨n, hn⟩ : ∃ n : Nat, r = (n : Int) := ⟨r.toNat, by omega⟩
  subst hn
  have hd : decide (1 ≤ (n : Int) ∧ (n : Int) ≤ 262144) = true := decide_eq_true h
  have HP := hid (pages_any 0 n (by omega) w)
  have e1 : blkN (n : Int) = ((pagesN n : Int), 0) := by unfold blkN; rw [if_pos h]; simp
  rw [e1]
  rw [hd] at HR
  clear h hd e1
  go_enter Tryz.func15, Tryz.ntmps15
  go_wp2_with fail
  refine Calls.mono HR.out ?_
  rintro e w1 ⟨rfl, rfl⟩
  go_wp2_with fail
  refine Calls.mono HP.out ?_
  rintro e w1 ⟨rfl, b⟩
  have B := hid b
  clear b HP HR
  go_wp2
  go_ret2
  exact ⟨rfl, B.out⟩
 ·have hd : decide (1 ≤ r ∧ r ≤ 262144) = false := decide_eq_false h
  have e1 : blkN r = (0, 60) := by unfold blkN; rw [if_neg h]
  rw [e1]
  rw [hd] at HR
  have B : Hid (Below w.heap.size w w) := Below.refl _ _
  clear h hd e1
  go_enter Tryz.func15, Tryz.ntmps15
  go_wp2_with fail
  refine Calls.mono HR.out ?_
  rintro e w1 ⟨rfl, rfl⟩
  go_wp2
  go_ret2
  exact ⟨rfl, B.out⟩
open Go.RowKit
def imgB (im : List Int) (i : Nat) : List Int := (im.drop (512 * i)).take 512
theorem get_splice {L cs : List Int} {o : Nat} (h : o + cs.length ≤ L.length) (j : Nat) : (splice L o cs)[j]? = if j < o then L[j]? else if j < o + cs.length then cs[j - o]? else L[j]? := by
 have hl : (L.take o).length = o := by simp; omega
 unfold splice
 by_cases h1 : j < o
 ·rw [if_pos h1, List.getElem?_append_left (by omega), List.getElem?_take_of_lt h1]
 ·rw [if_neg h1, List.getElem?_append_right (by omega), hl]
  by_cases h2 : j < o + cs.length
  ·rw [if_pos h2, List.getElem?_append_left (by omega)]
  ·rw [if_neg h2, List.getElem?_append_right (by omega), List.getElem?_drop]
   congr 1
   omega
theorem get_imgB (L : List Int) (i t : Nat) : (imgB L i)[t]? = if t < 512 then L[512 * i + t]? else none := by
 unfold imgB
 by_cases h : t < 512
 ·rw [if_pos h, List.getElem?_take_of_lt h, List.getElem?_drop]
 ·rw [if_neg h]
  exact List.getElem?_eq_none (by simp; omega)
theorem imgB_splice {im d : List Int} {nb x : Nat} (i : Nat) (hlen : im.length = 512 * nb) (hd : d.length = 512) (hx : x < nb) : imgB (splice im (x * 512) d) i = if i = x then d else imgB im i := by
 apply List.ext_getElem?
 intro t
 rw [get_imgB]
 by_cases ht : t < 512
 ·rw [if_pos ht, get_splice (by omega)]
  by_cases e : i = x
  ·subst e
   rw [if_neg (by omega), if_pos (by omega), if_pos rfl]
   congr 1
   omega
  ·rw [if_neg e, get_imgB, if_pos ht]
   by_cases h1 : i < x
   ·rw [if_pos (by omega)]
   ·rw [if_neg (by omega), if_neg (by omega)]
 ·rw [if_neg ht]
  by_cases e : i = x
  ·rw [if_pos e]; exact (List.getElem?_eq_none (by omega)).symm
  ·rw [if_neg e, get_imgB, if_neg ht]
def Fit (nb : Nat) (puts : List (Nat × List Int)) : Prop := ∀ q ∈ puts, q.1 < nb ∧ q.2.length = 512 ∧ Pl.isB q.2
theorem flush_seen {nb x : Nat} (puts : List (Nat × List Int)) : ∀ (img : List Int), img.length = 512 * nb → Fit nb puts → imgB (flushZ img puts) x = seenZ img puts x := by
 induction puts with
 | nil => intro img _ _; rfl
 | cons q r ih =>
  intro img hl hf
  obtain ⟨f1, f2, _⟩ := hf q (by simp)
  have e1 : flushZ img (q :: r) = flushZ (splice img (q.1 * 512) q.2) r := rfl
  rw [e1, ih _ (by rw [length_splice _ _ _ (by omega)]; exact hl) (fun q' h => hf q' (by simp [h]))]
  have e2 : seenZ (splice img (q.1 * 512) q.2) r x = r.foldl (fun s q => if q.1 = x then q.2 else s) (imgB (splice img (q.1 * 512) q.2) x) := rfl
  have e3 : seenZ img (q :: r) x = r.foldl (fun s q => if q.1 = x then q.2 else s) (if q.1 = x then q.2 else imgB img x) := rfl
  rw [e2, e3, imgB_splice x hl f2 f1]
  congr 1
  by_cases e : x = q.1
  ·rw [if_pos e, if_pos e.symm]
  ·rw [if_neg e, if_neg (fun h => e h.symm)]
theorem Dk.fit {X : Nat → Prop} {w : World} {p : Nat} {img : List Int} {puts : List (Nat × List Int)} {fu : Int} {off : Bool} {nb : Nat} (h : Dk X w p img puts fu off nb) : Fit nb puts := by
 obtain ⟨ds, gL, cL, pv, mp, rfl, h⟩ := h
 intro q hq
 obtain ⟨d, hd, rfl⟩ := List.mem_map.1 hq
 exact ⟨(h.dat d hd).2.2.2.2, (h.dat d hd).1.len, (h.dat d hd).2.1⟩
theorem mem_holdL {room : Nat} {l : List (Int × List Int)} {x : Int} {zs : List Int} {q : Int × List Int} (h : q ∈ holdL room l x zs) : (q ∈ l ∧ q.1 ≠ x) ∨ q = (x, zs) := by
 have h2 : q ∈ l.filter (fun q => q.1 ≠ x) ++ [(x, zs)] := by
  unfold holdL at h
  split at h
  ·exact List.mem_of_mem_tail h
  ·exact h
 rcases List.mem_append.1 h2 with h2 | h2
 ·obtain ⟨q1, q2⟩ := List.mem_filter.1 h2
  exact .inl ⟨q1, by simpa using q2⟩
 ·exact .inr (by simpa using h2)
theorem Good.read {l : List (Int × List Int)} {img : List Int} {puts : List (Nat × List Int)} {nb : Nat} (h : Good l img puts nb) (room : Nat) (off : Bool) (x : Int) : Good (readL room l (readR img puts off nb x) x) img puts nb := by
 intro q hq
 unfold readL at hq
 split at hq
 ·rename_i hz
  have hr : 0 ≤ x ∧ x < nb ∧ (readR img puts off nb x).2 = seenZ img puts x.toNat := by
   unfold readR at hz ⊢
   split at hz
   ·simp at hz
   ·split at hz
    ·simp at hz
    ·rw [if_neg ‹_›, if_neg ‹_›]
     exact ⟨by omega, by omega, rfl⟩
  rcases mem_holdL hq with q1 | rfl
  ·exact h q q1.1
  ·exact hr
 ·exact h q hq
theorem seen_push (img : List Int) (puts : List (Nat × List Int)) (y : Nat) (zs : List Int) (x : Nat) : seenZ img (puts ++ [(y, zs)]) x = if y = x then zs else seenZ img puts x := by
 unfold seenZ
 rw [List.foldl_append]
 rfl
theorem Good.write {l : List (Int × List Int)} {img : List Int} {puts : List (Nat × List Int)} {nb : Nat} (h : Good l img puts nb) (room : Nat) {x : Int} (h0 : 0 ≤ x) (h1 : x < nb) (zs : List Int) : Good (holdL room l x zs) img (puts ++ [(x.toNat, zs)]) nb := by
 intro q hq
 rcases mem_holdL hq with ⟨q1, q2⟩ | rfl
 ·obtain ⟨a, b, c⟩ := h q q1
  refine ⟨a, b, ?_⟩
  rw [seen_push, if_neg (by omega)]
  exact c
 ·exact ⟨h0, h1, by rw [seen_push, if_pos rfl]⟩
theorem Good.flush {l : List (Int × List Int)} {img : List Int} {puts : List (Nat × List Int)} {nb : Nat} (h : Good l img puts nb) (hl : img.length = 512 * nb) (hf : Fit nb puts) : Good l (flushZ img puts) [] nb := by
 intro q hq
 obtain ⟨a, b, c⟩ := h q hq
 refine ⟨a, b, ?_⟩
 rw [c, ← flush_seen puts img hl hf]
 rfl
theorem Good.nil (img : List Int) (puts : List (Nat × List Int)) (nb : Nat) : Good [] img puts nb := fun q hq => by cases hq
end Go.Proofs.YtlefjidbpjkhlaaGreat
