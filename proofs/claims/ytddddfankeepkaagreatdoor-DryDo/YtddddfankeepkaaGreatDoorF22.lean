import Derived.Test.YtddddfankeepkaaGreatDoorF21
import Derived.Deep.QuietTactic
import Derived.BigQuiet
namespace Go.Proofs.YtddddfankeepkaaGreatDoor
open Go.RowKit
abbrev nmA : ByteArray := { data := #[97] }
def awP : PV := ⟨nmA, 1, 5, 0, 0, false, []⟩
abbrev awO : OW := ⟨1, nmA, ByteArray.empty, 0, 5⟩
theorem aw_a : ckO 1 nmA ByteArray.empty 0 5 0 = 0 := by decide +kernel
theorem aw_f : fmE awO 0 = 0 := by unfold fmE; rw [aw_a]; simp
theorem aw_l : firstE (lksE 1 ⟨9, 9, 1, []⟩ awO (-1) (-1)) = 0 := by decide +kernel
theorem aw_t : tkE ⟨9, 9, 1, []⟩ awO 0 = 0 := by
 unfold tkE
 rw [if_pos aw_f]
 exact aw_l
theorem aw_x : tkX ⟨9, 9, 1, []⟩ awO = ⟨9, 9, 2, [awP]⟩ := by
 with_unfolding_all rfl
theorem aw_all : allP ⟨9, 9, 1, []⟩ [(awO, 0)] 0 = (⟨9, 9, 2, [awP]⟩, 0, 0) := by
 unfold allP
 rw [if_pos aw_t, aw_x]
 rfl
theorem Num_any (x : Int) (w : World) : Calls Tryz.prog 12 #[.int .i64 x] w fun e w' => e = .returned (.int .i64 x) ∧ w' = w := by
 go_enter Tryz.func12, Tryz.ntmps12
 go_wp2
 go_ret
 exact ⟨rfl, rfl⟩
def BoQ (w : World) (b : Bool) (e : Ending) (w' : World) : Prop := e = .returned (.bool b) ∧ Below w.heap.size w w'
set_option maxRecDepth 100000 in
set_option maxHeartbeats 4000000 in
theorem awake_any (w : World) (hG : GT w) : Calls Tryz.prog 7 #[] w fun e w' => BoQ w true e w' := by
 have HA := hid (Do_any ⟨9, 9, 1, []⟩ none 0 awO none 0 0 w ⟨by simp, by simp⟩ (.inl rfl) (fun _ => rfl) hG ⟨by decide +kernel, by decide +kernel, by simp, by simp⟩)
 rw [aw_all] at HA
 have HF : Hid (∀ w5 e, DoV w (⟨9, 9, 2, [awP]⟩, 0, 0) e w5 → ∃ g c mc ma, e = .returned (.tuple #[.agg #[.int .i64 9, .int .i64 9, .int .i64 2, .slice (some ⟨g, 0, none⟩) 1 c], .int .i64 0]) ∧ VolC w5 g 0 awP ma mc ∧ g < w5.heap.size ∧ ∀ w6, Below w5.heap.size w5 w6 → BoQ w true (.returned (.bool true)) w6) := by
  refine hid ?_
  rintro w5 e ⟨a', c', us, rfl, how, _, hb⟩
  obtain ⟨g, c, ma, mc, e1, hg, _, hV, _⟩ := how.volc (k := 0) (by simp)
  have hgl := (how.blk hg).2.1
  simp only [Value.slice.injEq] at e1
  obtain ⟨rfl, _, rfl⟩ := e1
  exact ⟨g, _, _, _, rfl, by simpa using hV, hgl, fun w6 h6 => ⟨rfl, hb.trans (h6.mono hb.size)⟩⟩
 clear hG
 go_enter Tryz.func7, Tryz.ntmps7
 go_wp2_with fail
 refine HA.out.mono ?_
 intro e w5 hA
 obtain ⟨g, c, mc, ma, rfl, ⟨c0, c1, c2, c3, c4, c5, c6⟩, hgl, hfin⟩ := HF.out w5 e hA
 have d1 : w5.cell? ⟨g, 1, none⟩ = some (.int .i64 1) := c1
 have d2 : w5.cell? ⟨g, 2, none⟩ = some (.int .i64 5) := c2
 have HFI := hid hfin
 clear hfin hA HF HA c0 c1 c2 c3 c4 c5 c6
 go_wp2_with fail
 refine (Num_any _ _).mono ?_
 rintro e w6 ⟨rfl, rfl⟩
 go_wp2_with fail
 go_ret
 exact HFI.out _ (below1 _ _)
end Go.Proofs.YtddddfankeepkaaGreatDoor
namespace Go.Proofs.YtddddfankeepkaaGreatDoor
open Go.RowKit
def Sgn (z : Int) (a b : Bool) : Prop :=
 (a = true ∧ b = true ∧ 97 ≤ z ∧ z ≤ 122) ∨ (a = true ∧ b = true ∧ ¬ z ≤ 122 ∧ 97 ≤ z ∧ z = 126) ∨ (a = false ∧ b = true ∧ ¬ 97 ≤ z ∧ (z == 126) = false ∧ 48 ≤ z ∧ z ≤ 57) ∨
  (∃ q : Int, a = false ∧ b = true ∧ z = q ∧ (q = 46 ∨ q = 45 ∨ q = 95 ∨ q = 64)) ∨ (a = false ∧ b = false ∧ ¬ 97 ≤ z ∧ (z == 126) = false ∧ 48 ≤ z ∧ ¬ z ≤ 57 ∧ (z == 46) = false ∧ (z == 45) = false ∧ (z == 95) = false ∧ (z == 64) = false) ∨
  (a = false ∧ b = false ∧ 97 ≤ z ∧ ¬ z ≤ 122 ∧ (z == 126) = false ∧ 48 ≤ z ∧ ¬ z ≤ 57 ∧ (z == 46) = false ∧ (z == 45) = false ∧ (z == 95) = false ∧ (z == 64) = false) ∨ (a = false ∧ b = false ∧ ¬ 97 ≤ z ∧ (z == 126) = false ∧ ¬ 48 ≤ z ∧ (z == 46) = false ∧ (z == 45) = false ∧ (z == 95) = false ∧ (z == 64) = false)
theorem Sgn.a {z : Int} (h1 : 97 ≤ z) (h2 : z ≤ 122) : Sgn z true true := .inl ⟨rfl, rfl, h1, h2⟩
theorem Sgn.t {z : Int} (h1 : ¬ z ≤ 122) (h2 : 97 ≤ z) (h3 : z = 126) : Sgn z true true := .inr (.inl ⟨rfl, rfl, h1, h2, h3⟩)
theorem Sgn.d {z : Int} (h1 : ¬ 97 ≤ z) (h2 : (z == 126) = false) (h3 : 48 ≤ z) (h4 : z ≤ 57) : Sgn z false true := .inr (.inr (.inl ⟨rfl, rfl, h1, h2, h3, h4⟩))
theorem Sgn.o {z : Int} (q : Int) (h1 : z = q) (h2 : q = 46 ∨ q = 45 ∨ q = 95 ∨ q = 64) : Sgn z false true := .inr (.inr (.inr (.inl ⟨q, rfl, rfl, h1, h2⟩)))
theorem Sgn.n1 {z : Int} (h1 : ¬ 97 ≤ z) (h2 : (z == 126) = false) (h3 : 48 ≤ z) (h4 : ¬ z ≤ 57) (h5 : (z == 46) = false) (h6 : (z == 45) = false) (h7 : (z == 95) = false) (h8 : (z == 64) = false) : Sgn z false false := .inr (.inr (.inr (.inr (.inl ⟨rfl, rfl, h1, h2, h3, h4, h5, h6, h7, h8⟩))))
theorem Sgn.n2 {z : Int} (h0 : 97 ≤ z) (h1 : ¬ z ≤ 122) (h2 : (z == 126) = false) (h3 : 48 ≤ z) (h4 : ¬ z ≤ 57) (h5 : (z == 46) = false) (h6 : (z == 45) = false) (h7 : (z == 95) = false) (h8 : (z == 64) = false) : Sgn z false false := .inr (.inr (.inr (.inr (.inr (.inl ⟨rfl, rfl, h0, h1, h2, h3, h4, h5, h6, h7, h8⟩)))))
theorem Sgn.n3 {z : Int} (h1 : ¬ 97 ≤ z) (h2 : (z == 126) = false) (h3 : ¬ 48 ≤ z) (h5 : (z == 46) = false) (h6 : (z == 45) = false) (h7 : (z == 95) = false) (h8 : (z == 64) = false) : Sgn z false false := .inr (.inr (.inr (.inr (.inr (.inr ⟨rfl, rfl, h1, h2, h3, h5, h6, h7, h8⟩)))))
theorem low_yes {z : Int} (h : (97 ≤ z ∧ z ≤ 122) ∨ z = 126) : isLow z = true := by
 unfold isLow
 rcases h with ⟨a, b⟩ | a <;> simp [*]
theorem low_no {z : Int} (h : ¬ (97 ≤ z ∧ z ≤ 122)) (h2 : ¬ z = 126) : isLow z = false := by
 unfold isLow
 by_cases a : 97 ≤ z
 ·have b : ¬ z ≤ 122 := fun b => h ⟨a, b⟩
  simp [b, h2]
 ·simp [a, h2]
theorem sgn_of (z : Int) : Sgn z (isLow z) (isSign z) := by
 by_cases a : 97 ≤ z
 ·by_cases b : z ≤ 122
  ·have e := low_yes (.inl ⟨a, b⟩)
   rw [isSign_low e, e]
   exact .a a b
  ·by_cases c : z = 126
   ·have e := low_yes (.inr c)
    rw [isSign_low e, e]
    exact .t b a c
   ·have e := low_no (fun q => b q.2) c
    have s : isSign z = false := by
     unfold isSign
     rw [e]
     simp [show ¬ z ≤ 57 by omega, show ¬ z = 46 by omega, show ¬ z = 45 by omega, show ¬ z = 95 by omega, show ¬ z = 64 by omega]
    rw [s, e]
    exact .n2 a b (by simpa using c) (by omega) (by omega) (by simp; omega) (by simp; omega) (by simp; omega) (by simp; omega)
 ·have c : ¬ z = 126 := by omega
  have e := low_no (fun q => a q.1) c
  by_cases d : 48 ≤ z ∧ z ≤ 57
  ·have s : isSign z = true := by
    unfold isSign
    rw [e]
    simp [d.1, d.2]
   rw [s, e]
   exact .d a (by simpa using c) d.1 d.2
  ·by_cases o : z = 46 ∨ z = 45 ∨ z = 95 ∨ z = 64
   ·have s : isSign z = true := by
     unfold isSign
     rw [e]
     rcases o with q | q | q | q <;> simp [q]
    rw [s, e]
    exact .o z rfl o
   ·have s : isSign z = false := by
     unfold isSign
     rw [e]
     have o1 : ¬ z = 46 := fun q => o (.inl q)
     have o2 : ¬ z = 45 := fun q => o (.inr (.inl q))
     have o3 : ¬ z = 95 := fun q => o (.inr (.inr (.inl q)))
     have o4 : ¬ z = 64 := fun q => o (.inr (.inr (.inr q)))
     by_cases f : 48 ≤ z
     ·have g : ¬ z ≤ 57 := fun q => d ⟨f, q⟩
      simp [g, o1, o2, o3, o4]
     ·simp [f, o1, o2, o3, o4]
    rw [s, e]
    by_cases f : 48 ≤ z
    ·exact .n1 a (by simpa using c) f (by omega) (by simp; omega) (by simp; omega) (by simp; omega) (by simp; omega)
    ·exact .n3 a (by simpa using c) f (by simp; omega) (by simp; omega) (by simp; omega) (by simp; omega)
theorem nmd_step {l : List Int} {k : Nat} (hl : 0 < k → isLow (l.getD 0 0) = true) (ha : ∀ j, j < k → isSign (l.getD j 0) = true) (hs : isSign (l.getD k 0) = true) (h0 : k = 0 → isLow (l.getD k 0) = true) : (0 < k + 1 → isLow (l.getD 0 0) = true) ∧ ∀ j, j < k + 1 → isSign (l.getD j 0) = true := by
 refine ⟨fun _ => ?_, fun j hj => ?_⟩
 ·by_cases e : k = 0
  ·have := h0 e
   rw [e] at this
   exact this
  ·exact hl (by omega)
 ·by_cases e : j = k
  ·rw [e]; exact hs
  ·exact ha j (by omega)
theorem nmd_low {l : List Int} (h : isLow (l.getD 0 0) = false) : nmd l = false := by unfold nmd; rw [h]; simp
set_option maxRecDepth 100000 in
set_option maxHeartbeats 4000000 in
theorem Named_any (l : List Int) (hb : Pl.isB l) (hl : l.length ≤ 16777216) (w : World) : Calls Tryz.prog 28 #[.string (strOfNums l)] w fun e w' => e = .returned (.bool (nmd l)) ∧ w' = w := by
 have hsz := str_size l
 by_cases q0 : l.length < 1
 ·have e : nmd l = false := by unfold nmd; simp [show ¬ 1 ≤ l.length from by omega]
  rw [e]
  generalize strOfNums l = S at *
  go_enter Tryz.func28, Tryz.ntmps28
  go_wp2
  go_ret
  exact ⟨rfl, rfl⟩
 by_cases q1 : 31 < l.length
 ·have e : nmd l = false := by unfold nmd; simp [show ¬ l.length ≤ 31 from by omega]
  rw [e]
  generalize strOfNums l = S at *
  go_enter Tryz.func28, Tryz.ntmps28
  go_wp2
  go_ret
  exact ⟨rfl, rfl⟩
 have HX := hid (fun i hi h => str_get l hb i hi h)
 generalize strOfNums l = S at *
 clear hb
 go_enter Tryz.func28, Tryz.ntmps28
 go_wp2_with fail
 go_loop [3] (fun i => ∃ k : Nat, k ≤ l.length ∧ i = .int .i64 (k : Int) ∧ (0 < k → isLow (l.getD 0 0) = true) ∧ ∀ j, j < k → isSign (l.getD j 0) = true) (fun i => l.length - (intOf i).toNat)
 case atStart => exact ⟨0, Nat.zero_le _, rfl, fun h => absurd h (by omega), fun j hj => by omega⟩
 case round =>
  obtain ⟨k, hk, rfl, hlow, hall⟩ := hrel
  by_cases hkn : k < l.length
  ·have hix := HX.out k hkn
   have HA := hid hall
   have HL := hid hlow
   have hsg := sgn_of (l.getD k 0)
   clear hall hlow
   generalize hzz : l.getD k 0 = z at *
   have HZ := hid hzz
   clear hzz
   generalize hlw : isLow z = lw at *
   generalize hsn : isSign z = sn at *
   have HLW := hid hlw
   have HSN := hid hsn
   clear hlw hsn
   have hss : sn = true → isSign (l.getD k 0) = true := fun e => by rw [HZ.out, HSN.out, e]
   have hlo : lw = true → isLow (l.getD k 0) = true := fun e => by rw [HZ.out, HLW.out, e]
   have hns : sn = false → nmd l = false := fun e => nmd_no hkn (by rw [HZ.out, HSN.out, e])
   have hnl : lw = false → k = 0 → nmd l = false := fun e e0 => by
    subst e0
    exact nmd_low (by rw [HZ.out, HLW.out, e])
   clear HZ HLW HSN
   rcases hsg with ⟨rfl, rfl, h1, h2⟩ | ⟨rfl, rfl, h1, h2, h3⟩ | ⟨rfl, rfl, h1, h2, h3, h4⟩ | ⟨q, rfl, rfl, hq, hqs⟩ | ⟨rfl, rfl, h1, h2, h3, h4, h5, h6, h7, h8⟩ | ⟨rfl, rfl, h1, h2, h3, h4, h5, h6, h7, h8, h9⟩ | ⟨rfl, rfl, h1, h2, h3, h4, h5, h6, h7⟩
   ·skip
    have HSS := hid (hss rfl)
    have HL0 := hid (fun (_ : k = 0) => hlo rfl)
    clear hss hlo hns hnl
    go_wp2
    go_round
    case rel => exact ⟨k + 1, by omega, by go_num, nmd_step HL.out HA.out HSS.out HL0.out⟩
    case measure => simp [intOf]; omega
   ·skip
    have HSS := hid (hss rfl)
    have HL0 := hid (fun (_ : k = 0) => hlo rfl)
    clear hss hlo hns hnl
    subst h3
    clear h1 h2
    go_wp2
    go_round
    case rel => exact ⟨k + 1, by omega, by go_num, nmd_step HL.out HA.out HSS.out HL0.out⟩
    case measure => simp [intOf]; omega
   ·skip
    by_cases hk0 : k = 0
    ·have HNO := hid (hnl rfl hk0)
     clear hss hlo hns hnl HL HA
     subst hk0
     go_wp2
     go_ret
     exact ⟨by rw [HNO.out]; rfl, rfl⟩
    ·have HSS := hid (hss rfl)
     have HL0 := hid (fun (e : k = 0) => (absurd e hk0 : isLow (l.getD k 0) = true))
     clear hss hlo hns hnl
     go_wp2
     go_round
     case rel => exact ⟨k + 1, by omega, by go_num, nmd_step HL.out HA.out HSS.out HL0.out⟩
     case measure => simp [intOf]; omega
   ·skip
    by_cases hk0 : k = 0
    ·have HNO := hid (hnl rfl hk0)
     clear hss hlo hns hnl HL HA
     subst hk0
     rcases hqs with rfl | rfl | rfl | rfl <;> subst hq
     all_goals
      go_wp2
      go_ret
      exact ⟨by rw [HNO.out]; rfl, rfl⟩
    ·have HSS := hid (hss rfl)
     have HL0 := hid (fun (e : k = 0) => (absurd e hk0 : isLow (l.getD k 0) = true))
     clear hss hlo hns hnl
     rcases hqs with rfl | rfl | rfl | rfl <;> subst hq
     all_goals
      go_wp2
      go_round
      case rel => exact ⟨k + 1, by omega, by go_num, nmd_step HL.out HA.out HSS.out HL0.out⟩
      case measure => simp [intOf]; omega
   ·skip
    by_cases hk0 : k = 0
    ·have HNO := hid (hnl rfl hk0)
     clear hss hlo hns hnl HL HA
     subst hk0
     go_wp2
     go_ret
     exact ⟨by rw [HNO.out]; rfl, rfl⟩
    ·have HNO := hid (hns rfl)
     clear hss hlo hns hnl HL HA
     go_wp2
     go_ret
     exact ⟨by rw [HNO.out]; rfl, rfl⟩
   ·skip
    by_cases hk0 : k = 0
    ·have HNO := hid (hnl rfl hk0)
     clear hss hlo hns hnl HL HA
     subst hk0
     go_wp2
     go_ret
     exact ⟨by rw [HNO.out]; rfl, rfl⟩
    ·have HNO := hid (hns rfl)
     clear hss hlo hns hnl HL HA
     go_wp2
     go_ret
     exact ⟨by rw [HNO.out]; rfl, rfl⟩
   ·skip
    by_cases hk0 : k = 0
    ·have HNO := hid (hnl rfl hk0)
     clear hss hlo hns hnl HL HA
     subst hk0
     go_wp2
     go_ret
     exact ⟨by rw [HNO.out]; rfl, rfl⟩
    ·have HNO := hid (hns rfl)
     clear hss hlo hns hnl HL HA
     go_wp2
     go_ret
     exact ⟨by rw [HNO.out]; rfl, rfl⟩
  ·go_wp2
   go_ret
   refine ⟨?_, rfl⟩
   have ha : l.all isSign = true := by
    rw [List.all_eq_true]
    intro x hx
    obtain ⟨i, hi, rfl⟩ := List.getElem_of_mem hx
    have := hall i (by omega)
    rw [List.getD_eq_getElem?_getD, List.getElem?_eq_getElem hi] at this
    exact this
   have e : nmd l = true := by
    unfold nmd
    rw [ha, hlow (by omega)]
    simp
    omega
   rw [e]
   rfl
theorem Named_s (s : ByteArray) (hs : s.size ≤ 16777216) (w : World) : Calls Tryz.prog 28 #[.string s] w fun e w' => e = .returned (.bool (nmB s)) ∧ w' = w := by
 have h := Named_any (nums s) (isB_nums s) (by rw [length_nums]; exact hs) w
 rw [str_nums] at h
 exact h
end Go.Proofs.YtddddfankeepkaaGreatDoor
namespace Go.Proofs.YtddddfankeepkaaGreatDoor
open Go.RowKit
def rgO : List Rg → Int → Int → Bool
 | [], _, _ => true
 | r :: l, b, sz => if r.f ≤ b then false else if r.t ≤ r.f then false else if sz < r.t then false else rgO l r.t sz
theorem rgO_at {rs : List Rg} {k : Nat} (hk : k < rs.length) (b sz : Int) : rgO (rs.drop k) b sz = if rs[k].f ≤ b then false else if rs[k].t ≤ rs[k].f then false else if sz < rs[k].t then false else rgO (rs.drop (k + 1)) rs[k].t sz := by
 rw [List.drop_eq_getElem_cons hk]
 rfl
def BoD (w : World) (b : Bool) (e : Ending) (w' : World) : Prop := e = .returned (.bool b) ∧ ∃ m, w' = w.drewN m
set_option maxRecDepth 100000 in
set_option maxHeartbeats 4000000 in
theorem ranges_any (a : Option Addr) (c : Nat) (rs : List Rg) (sz : Int) (w : World) (hl : rs.length ≤ 16777216) (hR : RdR w.heap.size w a rs) :
  Calls Tryz.prog 29 #[.slice a rs.length c, .int .i64 sz] w fun e w' => BoD w (rgO rs (-1) sz) e w' := by
 have HR := hid hR
 have HB0 : Hid (∃ m, w = w.drewN m) := hid ⟨0, rfl⟩
 obtain ⟨n, hn⟩ : ∃ n, n = rs.length := ⟨_, rfl⟩
 have HN := hid hn
 have hn16 : n ≤ 16777216 := by omega
 obtain ⟨z, hz⟩ : ∃ z, z = rgO rs (-1) sz := ⟨_, rfl⟩
 have HZ := hid hz
 rw [← hn, ← hz]
 clear hR hn hz hl
 go_enter Tryz.func29, Tryz.ntmps29
 go_wp2_with fail
 go_loopw [5, 6] (fun b iv wr => ∃ (k : Nat) (b' : Int), k ≤ n ∧ iv = .int .i64 (k : Int) ∧ b = .int .i64 b' ∧ z = rgO (rs.drop k) b' sz ∧ ∃ m, wr = w.drewN m) (fun _ iv _ => n - (intOf iv).toNat)
 case atStart => exact ⟨0, -1, Nat.zero_le _, rfl, rfl, by rw [HZ.out]; rfl, HB0.out⟩
 case round =>
  obtain ⟨k, b', hk, rfl, rfl, hzk, hb⟩ := hrel
  by_cases hlt : k < n
  ·have hkl : k < rs.length := by have := HN.out; omega
   obtain ⟨g, off, rfl, hgl, hc⟩ := (HR.out.below (show Below w.heap.size w wr by obtain ⟨m, e⟩ := hb; rw [e]; exact below_drewN _ _ _)).resolve_left (fun e => by rw [e] at hkl; simp at hkl)
   obtain ⟨c0, c1⟩ := hc k hkl
   have HB := hid hb
   rw [rgO_at hkl] at hzk
   have HZK := hid hzk
   have hl1 : (k : Int) < (n : Int) := by omega
   clear hb hzk hc hgl HR HB0 HZ
   generalize rs[k].f = f at *
   generalize rs[k].t = t at *
   by_cases h1 : f ≤ b'
   ·have HE : Hid (z = false) := hid (by rw [HZK.out, if_pos h1])
    clear HZK
    go_wp2_with fail
    go_quiet (fail)
    generalize hU : wr.drewN _ = U
    have c0U : U.cell? ⟨g, off + k * 2, none⟩ = some (.int .i64 f) := by rw [← hU]; exact c0
    have c1U : U.cell? ⟨g, off + k * 2 + 1, none⟩ = some (.int .i64 t) := by rw [← hU]; exact c1
    have HBU : Hid (∃ m, U = w.drewN m) := hid (by obtain ⟨m, e⟩ := HB.out; exact ⟨m + _, by rw [← hU, e, World.drewN_drewN]⟩)
    clear hU c0 c1
    go_wp2
    go_ret
    exact ⟨by rw [HE.out]; rfl, HBU.out⟩
   ·by_cases h2 : t ≤ f
    ·have HE : Hid (z = false) := hid (by rw [HZK.out, if_neg h1, if_pos h2])
     clear HZK
     go_wp2_with fail
     go_quiet (fail)
     generalize hU : wr.drewN _ = U
     have c0U : U.cell? ⟨g, off + k * 2, none⟩ = some (.int .i64 f) := by rw [← hU]; exact c0
     have c1U : U.cell? ⟨g, off + k * 2 + 1, none⟩ = some (.int .i64 t) := by rw [← hU]; exact c1
     have HBU : Hid (∃ m, U = w.drewN m) := hid (by obtain ⟨m, e⟩ := HB.out; exact ⟨m + _, by rw [← hU, e, World.drewN_drewN]⟩)
     clear hU c0 c1
     go_wp2
     go_ret
     exact ⟨by rw [HE.out]; rfl, HBU.out⟩
    ·by_cases h3 : sz < t
     ·have HE : Hid (z = false) := hid (by rw [HZK.out, if_neg h1, if_neg h2, if_pos h3])
      clear HZK
      go_wp2_with fail
      go_quiet (fail)
      generalize hU : wr.drewN _ = U
      have c0U : U.cell? ⟨g, off + k * 2, none⟩ = some (.int .i64 f) := by rw [← hU]; exact c0
      have c1U : U.cell? ⟨g, off + k * 2 + 1, none⟩ = some (.int .i64 t) := by rw [← hU]; exact c1
      have HBU : Hid (∃ m, U = w.drewN m) := hid (by obtain ⟨m, e⟩ := HB.out; exact ⟨m + _, by rw [← hU, e, World.drewN_drewN]⟩)
      clear hU c0 c1
      go_wp2
      go_ret
      exact ⟨by rw [HE.out]; rfl, HBU.out⟩
     ·have HE : Hid (z = rgO (rs.drop (k + 1)) t sz) := hid (by rw [HZK.out, if_neg h1, if_neg h2, if_neg h3])
      clear HZK
      go_wp2_with fail
      go_quiet (fail)
      generalize hU : wr.drewN _ = U
      have c0U : U.cell? ⟨g, off + k * 2, none⟩ = some (.int .i64 f) := by rw [← hU]; exact c0
      have c1U : U.cell? ⟨g, off + k * 2 + 1, none⟩ = some (.int .i64 t) := by rw [← hU]; exact c1
      have HBU : Hid (∃ m, U = w.drewN m) := hid (by obtain ⟨m, e⟩ := HB.out; exact ⟨m + _, by rw [← hU, e, World.drewN_drewN]⟩)
      clear hU c0 c1
      go_wp2
      go_roundw
      case rel => exact ⟨k + 1, t, by omega, by go_num, rfl, HE.out, HBU.out⟩
      case measure => simp [intOf]; omega
  ·have ein : k = n := by omega
   subst ein
   have HE : Hid (z = true) := hid (by rw [hzk, HN.out, List.drop_length]; rfl)
   have HB := hid hb
   have hl1 : ¬ (k : Int) < (k : Int) := by omega
   clear hb hzk HR HB0 HZ
   go_wp2
   go_ret
   exact ⟨by rw [HE.out]; rfl, HB.out⟩
end Go.Proofs.YtddddfankeepkaaGreatDoor
namespace Go.Proofs.YtddddfankeepkaaGreatDoor
open Go.RowKit
def mayH (x : VW) : Bool := if x.cp < 1 then false else if 262144 < x.cp then false else if x.fr < 0 then false else if x.cp < x.fr then false else if x.nx < 1 then false else if 1073741825 < x.nx then false else if 64 < (x.vs.length : Int) then false else true
set_option maxRecDepth 100000 in
set_option maxHeartbeats 8000000 in
theorem May_head (x : VW) (a : Option Addr) (c0 : Nat) (w : World) (hl : x.vs.length ≤ 16777216) (hh : mayH x = false) :
  Calls Tryz.prog 8 #[viewA x a c0] w fun e w' => BoQ w false e w' := by
 have HQ : Hid (∀ o w', w' = w.alloc o → BoQ w false (.returned (.bool false)) w') := hid (fun o w' e => ⟨rfl, by rw [e]; exact below1 _ _⟩)
 unfold mayH at hh
 dsimp only [viewA] at *
 obtain ⟨cp, fr, nx, vs⟩ := x
 dsimp only at *
 generalize vs.length = n at *
 by_cases h0 : cp < 1
 ·clear hh
  go_enter Tryz.func8, Tryz.ntmps8
  go_wp2
  go_ret
  exact HQ.out _ _ rfl
 rw [if_neg h0] at hh
 by_cases h1 : 262144 < cp
 ·clear hh
  go_enter Tryz.func8, Tryz.ntmps8
  go_wp2
  go_ret
  exact HQ.out _ _ rfl
 rw [if_neg h1] at hh
 by_cases h2 : fr < 0
 ·clear hh
  go_enter Tryz.func8, Tryz.ntmps8
  go_wp2
  go_ret
  exact HQ.out _ _ rfl
 rw [if_neg h2] at hh
 by_cases h3 : cp < fr
 ·clear hh
  go_enter Tryz.func8, Tryz.ntmps8
  go_wp2
  go_ret
  exact HQ.out _ _ rfl
 rw [if_neg h3] at hh
 by_cases h4 : nx < 1
 ·clear hh
  go_enter Tryz.func8, Tryz.ntmps8
  go_wp2
  go_ret
  exact HQ.out _ _ rfl
 rw [if_neg h4] at hh
 by_cases h5 : 1073741825 < nx
 ·clear hh
  go_enter Tryz.func8, Tryz.ntmps8
  go_wp2
  go_ret
  exact HQ.out _ _ rfl
 rw [if_neg h5] at hh
 by_cases h6 : 64 < (n : Int)
 ·clear hh
  go_enter Tryz.func8, Tryz.ntmps8
  go_wp2
  go_ret
  exact HQ.out _ _ rfl
 rw [if_neg h6] at hh
 exact absurd hh (by simp)
end Go.Proofs.YtddddfankeepkaaGreatDoor
namespace Go.Proofs.YtddddfankeepkaaGreatDoor
open Go.RowKit
theorem mayH_yes {x : VW} (h : mayH x = true) : ¬ x.cp < 1 ∧ ¬ 262144 < x.cp ∧ ¬ x.fr < 0 ∧ ¬ x.cp < x.fr ∧ ¬ x.nx < 1 ∧ ¬ 1073741825 < x.nx ∧ ¬ 64 < (x.vs.length : Int) := by
 unfold mayH at h
 repeat (split at h; exact absurd h (by simp))
 refine ⟨?_, ?_, ?_, ?_, ?_, ?_, ?_⟩ <;> assumption
def nmLe (a b : ByteArray) : Bool := Op.bytesLess a.toList b.toList || a.toList == b.toList
def volN (v : PV) (nx : Int) : Bool := if v.id < 1 then false else if nx ≤ v.id then false else if v.sz < 1 then false else if 262144 < v.sz then false else if v.og < 0 then false else if v.id ≤ v.og then false else true
def volK (v : PV) : Bool := if v.kd = 0 then rgO v.mp (-1) v.sz else if v.kd = 1 then rgO v.mp (-1) v.sz else false
def volM (x : VW) (k : Nat) (h : k < x.vs.length) : Bool := nmB x.vs[k].nm && (decide (k = 0) || !nmLe x.vs[k].nm (x.vs[k - 1]'(by omega)).nm) && volN x.vs[k] x.nx && volK x.vs[k] && (x.vs.take k).all (fun v => !(v.id == x.vs[k].id))
def mayB (x : VW) : Bool := mayH x && (List.finRange x.vs.length).all (fun i => volM x i.1 i.2)
theorem mayB_no {x : VW} {k : Nat} (hk : k < x.vs.length) (h : volM x k hk = false) : mayB x = false := by
 unfold mayB
 have e : (List.finRange x.vs.length).all (fun i => volM x i.1 i.2) = false := by
  rw [List.all_eq_false]
  exact ⟨⟨k, hk⟩, List.mem_finRange _, by simp [h]⟩
 rw [e, Bool.and_false]
theorem mayB_yes {x : VW} (h0 : mayH x = true) (h : ∀ k (hk : k < x.vs.length), volM x k hk = true) : mayB x = true := by
 unfold mayB
 rw [h0, Bool.true_and, List.all_eq_true]
 exact fun i _ => h i.1 i.2
theorem nmLe_ways {a b : ByteArray} (h : nmLe a b = true) : Op.bytesLess a.toList b.toList = true ∨ (Op.bytesLess a.toList b.toList = false ∧ (a.toList == b.toList) = true) := by
 unfold nmLe at h
 cases e : Op.bytesLess a.toList b.toList
 ·rw [e, Bool.false_or] at h; exact .inr ⟨rfl, h⟩
 ·exact .inl rfl
theorem nmLe_no {a b : ByteArray} (h : nmLe a b = false) : Op.bytesLess a.toList b.toList = false ∧ (a.toList == b.toList) = false := by
 unfold nmLe at h
 exact Bool.or_eq_false_iff.1 h
theorem volM_name {x : VW} {k : Nat} (hk : k < x.vs.length) (h : nmB x.vs[k].nm = false) : volM x k hk = false := by unfold volM; rw [h]; simp
theorem volM_le {x : VW} {m : Nat} (hk : m + 1 < x.vs.length) (h : nmLe x.vs[m + 1].nm x.vs[m].nm = true) : volM x (m + 1) hk = false := by
 unfold volM
 simp only [Nat.add_sub_cancel, h]
 simp
theorem volM_num {x : VW} {k : Nat} (hk : k < x.vs.length) (h : volN x.vs[k] x.nx = false) : volM x k hk = false := by unfold volM; rw [h]; simp
theorem volM_kind {x : VW} {k : Nat} (hk : k < x.vs.length) (h : volK x.vs[k] = false) : volM x k hk = false := by unfold volM; rw [h]; simp
theorem volM_twice {x : VW} {k j : Nat} (hk : k < x.vs.length) (hj : j < k) (h : (x.vs[j]'(by omega)).id = x.vs[k].id) : volM x k hk = false := by
 unfold volM
 have e : (x.vs.take k).all (fun v => !(v.id == x.vs[k].id)) = false := by
  rw [List.all_eq_false]
  exact ⟨x.vs[j]'(by omega), List.mem_iff_getElem.2 ⟨j, by rw [List.length_take]; omega, by rw [List.getElem_take]⟩, by simp [h]⟩
 rw [e, Bool.and_false]
theorem volM_all {x : VW} {k : Nat} (hk : k < x.vs.length) (h1 : nmB x.vs[k].nm = true) (h2 : k = 0 ∨ nmLe x.vs[k].nm (x.vs[k - 1]'(by omega)).nm = false) (h3 : volN x.vs[k] x.nx = true) (h4 : volK x.vs[k] = true) (h5 : ∀ j (hj : j < k), (x.vs[j]'(by omega)).id ≠ x.vs[k].id) : volM x k hk = true := by
 unfold volM
 have e : (x.vs.take k).all (fun v => !(v.id == x.vs[k].id)) = true := by
  rw [List.all_eq_true]
  intro v hv
  obtain ⟨j, hj, rfl⟩ := List.getElem_of_mem hv
  rw [List.length_take] at hj
  rw [List.getElem_take]
  simpa using h5 j (by omega)
 rw [e, h1, h3, h4]
 rcases h2 with h2 | h2
 ·simp [h2]
 ·simp [h2]
end Go.Proofs.YtddddfankeepkaaGreatDoor
namespace Go.Proofs.YtddddfankeepkaaGreatDoor
open Go.RowKit
/-! ### names in order -/
theorem bl_irrefl : ∀ a : List UInt8, Op.bytesLess a a = false
 | [] => rfl
 | x :: l => by simp [Op.bytesLess, bl_irrefl l]
theorem bl_trans : ∀ a b c : List UInt8, Op.bytesLess a b = true → Op.bytesLess b c = true → Op.bytesLess a c = true
 | _, _, [], _, h => by simp [Op.bytesLess] at h
 | [], _, _ :: _, _, _ => by simp [Op.bytesLess]
 | _ :: _, [], _ :: _, h, _ => by simp [Op.bytesLess] at h
 | x :: a, y :: b, z :: c, h1, h2 => by
  simp only [Op.bytesLess, Bool.or_eq_true, decide_eq_true_eq, Bool.and_eq_true, beq_iff_eq] at *
  rcases h1 with h1 | ⟨rfl, h1⟩
  ·rcases h2 with h2 | ⟨rfl, h2⟩
   ·exact .inl (UInt8.lt_trans h1 h2)
   ·exact .inl h1
  ·rcases h2 with h2 | ⟨rfl, h2⟩
   ·exact .inl h2
   ·exact .inr ⟨rfl, bl_trans a b c h1 h2⟩
theorem bl_tri : ∀ a b : List UInt8, Op.bytesLess a b = false → Op.bytesLess b a = false → a = b
 | [], [], _, _ => rfl
 | [], _ :: _, h, _ => by simp [Op.bytesLess] at h
 | _ :: _, [], _, h => by simp [Op.bytesLess] at h
 | x :: a, y :: b, h1, h2 => by
  simp only [Op.bytesLess, Bool.or_eq_false_iff, decide_eq_false_iff_not, Bool.and_eq_false_iff, beq_eq_false_iff_ne, ne_eq] at *
  have e : x = y := UInt8.le_antisymm (UInt8.not_lt.1 h2.1) (UInt8.not_lt.1 h1.1)
  subst e
  rw [bl_tri a b (h1.2.resolve_left (fun h => h rfl)) (h2.2.resolve_left (fun h => h rfl))]
theorem cmp_less : ∀ a b : List UInt8, Lib.compareBytes a b < 0 ↔ Op.bytesLess a b = true
 | [], [] => by simp [Lib.compareBytes, Op.bytesLess]
 | [], _ :: _ => by simp [Lib.compareBytes, Op.bytesLess]
 | _ :: _, [] => by simp [Lib.compareBytes, Op.bytesLess]
 | x :: a, y :: b => by
  unfold Lib.compareBytes
  simp only [Op.bytesLess, Bool.or_eq_true, decide_eq_true_eq, Bool.and_eq_true, beq_iff_eq]
  by_cases h1 : x < y
  ·rw [if_pos h1]; exact ⟨fun _ => .inl h1, fun _ => by decide⟩
  ·rw [if_neg h1]
   by_cases h2 : y < x
   ·rw [if_pos h2]
    refine ⟨fun h => absurd h (by decide), fun h => ?_⟩
    rcases h with h | ⟨rfl, _⟩
    ·exact absurd h h1
    ·exact absurd h2 h1
   ·rw [if_neg h2, cmp_less a b]
    have e : x = y := UInt8.le_antisymm (UInt8.not_lt.1 h2) (UInt8.not_lt.1 h1)
    exact ⟨fun h => .inr ⟨e, h⟩, fun h => (h.resolve_left h1).2⟩
def ltS (a b : ByteArray) : Prop := Op.bytesLess a.toList b.toList = true
theorem ltS_irrefl (a : ByteArray) : ¬ ltS a a := by unfold ltS; rw [bl_irrefl]; simp
theorem ltS_trans {a b c : ByteArray} (h1 : ltS a b) (h2 : ltS b c) : ltS a c := bl_trans _ _ _ h1 h2
theorem ltS_asymm {a b : ByteArray} (h1 : ltS a b) : ¬ ltS b a := fun h => ltS_irrefl a (ltS_trans h1 h)
theorem ltS_ne {a b : ByteArray} (h : ltS a b) : a ≠ b := fun e => ltS_irrefl b (by rw [e] at h; exact h)
theorem ltS_tri {a b : ByteArray} (h1 : ¬ ltS a b) (h2 : a ≠ b) : ltS b a := by
 unfold ltS at *
 cases e : Op.bytesLess b.toList a.toList
 ·exact absurd (str_toList.1 (bl_tri _ _ (by simpa using h1) e)) h2
 ·rfl
theorem cmpN_lt (a b : ByteArray) : cmpN a b < 0 ↔ ltS a b := by
 unfold cmpN ltS
 rw [cmp_less, ByteArray.toList_eq, ByteArray.toList_eq]
theorem nmLe_false {a b : ByteArray} (h : nmLe a b = false) : ltS b a := by
 unfold nmLe at h
 rw [Bool.or_eq_false_iff] at h
 refine ltS_tri (by unfold ltS; rw [h.1]; simp) (fun e => ?_)
 rw [e] at h
 simp at h
theorem nmLe_of_lt {a b : ByteArray} (h : ltS b a) : nmLe a b = false := by
 unfold nmLe
 rw [Bool.or_eq_false_iff]
 refine ⟨by have := ltS_asymm h; unfold ltS at this; simpa using this, ?_⟩
 simp only [beq_eq_false_iff_ne, ne_eq, str_toList]
 exact fun e => ltS_ne h e.symm
/-! ### the search by halves of what turns once -/
theorem srch_spec (p : Nat → Bool) (n : Nat) (hm : ∀ a b, a ≤ b → b < n → p a = true → p b = true) : ∀ (d i j : Nat), i ≤ j → j ≤ n → j - i ≤ d → (∀ h, h < i → p h = false) → (∀ h, j ≤ h → h < n → p h = true) → (∀ h, h < srch p d i j → p h = false) ∧ (∀ h, srch p d i j ≤ h → h < n → p h = true)
 | 0, i, j, hij, hjn, hd, h1, h2 => by
  have : i = j := by omega
  subst this
  exact ⟨h1, h2⟩
 | d + 1, i, j, hij, hjn, hd, h1, h2 => by
  unfold srch
  by_cases hlt : i < j
  ·rw [if_pos hlt]
   by_cases hp : p ((i + j) / 2) = true
   ·rw [if_pos hp]
    exact srch_spec p n hm d i ((i + j) / 2) (by omega) (by omega) (by omega) h1 (fun h ha hb => hm _ h ha hb hp)
   ·rw [if_neg hp]
    refine srch_spec p n hm d ((i + j) / 2 + 1) j (by omega) hjn (by omega) (fun h ha => ?_) h2
    cases e : p h
    ·rfl
    ·exact absurd (hm h ((i + j) / 2) (by omega) (by omega) e) hp
  ·rw [if_neg hlt]
   have : i = j := by omega
   subst this
   exact ⟨h1, h2⟩
theorem srch_all (p : Nat → Bool) (n : Nat) (hm : ∀ a b, a ≤ b → b < n → p a = true → p b = true) : (∀ h, h < srch p n 0 n → p h = false) ∧ (∀ h, srch p n 0 n ≤ h → h < n → p h = true) :=
 srch_spec p n hm n 0 n (by omega) (by omega) (by omega) (fun h ha => by omega) (fun h ha hb => by omega)
/-! ### volumes by name -/
def ltV (a b : PV) : Prop := ltS a.nm b.nm
theorem getD_lt {α : Type} {l : List α} {d : α} {k : Nat} (h : k < l.length) : l.getD k d = l[k] := by
 rw [List.getD_eq_getElem?_getD, List.getElem?_eq_getElem h]; rfl
theorem pw_get {vs : List PV} (h : vs.Pairwise ltV) {i j : Nat} (hi : i < vs.length) (hj : j < vs.length) (hij : i < j) : ltS vs[i].nm vs[j].nm := (List.pairwise_iff_getElem.1 h) i j hi hj hij
theorem layI_spec {vs : List PV} (h : vs.Pairwise ltV) (nm : ByteArray) : (∀ k (hk : k < vs.length), k < layI vs nm → ltS vs[k].nm nm) ∧ (∀ k (hk : k < vs.length), layI vs nm ≤ k → ¬ ltS vs[k].nm nm) := by
 have := srch_all (fun h => !decide (cmpN (vs.getD h PV0).nm nm < 0)) vs.length (fun a b hab hb hp => by
  rw [getD_lt (Nat.lt_of_le_of_lt hab hb)] at hp
  rw [getD_lt hb]
  simp only [Bool.not_eq_true', decide_eq_false_iff_not, cmpN_lt] at *
  intro hq
  by_cases e : a = b
  ·subst e; exact hp hq
  ·exact hp (ltS_trans (pw_get h (Nat.lt_of_le_of_lt hab hb) hb (by omega)) hq))
 refine ⟨fun k hk hl => ?_, fun k hk hl => ?_⟩
 ·have := this.1 k hl
  rw [getD_lt hk] at this
  simpa [cmpN_lt] using this
 ·have := this.2 k hl hk
  rw [getD_lt hk] at this
  simpa [cmpN_lt] using this
theorem lay_take {vs : List PV} (h : vs.Pairwise ltV) (nm : ByteArray) : ∀ u ∈ vs.take (layI vs nm), ltS u.nm nm := by
 intro u hu
 obtain ⟨k, hk, rfl⟩ := List.getElem_of_mem hu
 rw [List.length_take] at hk
 rw [List.getElem_take]
 exact (layI_spec h nm).1 k (by omega) (by omega)
theorem lay_drop {vs : List PV} (h : vs.Pairwise ltV) {nm : ByteArray} (hf : ∀ u ∈ vs, u.nm ≠ nm) : ∀ u ∈ vs.drop (layI vs nm), ltS nm u.nm := by
 intro u hu
 obtain ⟨k, hk, rfl⟩ := List.getElem_of_mem hu
 rw [List.length_drop] at hk
 rw [List.getElem_drop]
 exact ltS_tri ((layI_spec h nm).2 _ (by omega) (by omega)) (hf _ (List.getElem_mem _))
theorem lay_sorted {vs : List PV} (h : vs.Pairwise ltV) {v : PV} (hf : ∀ u ∈ vs, u.nm ≠ v.nm) : (layP vs v).Pairwise ltV := by
 unfold layP
 rw [List.append_assoc, List.pairwise_append]
 refine ⟨h.sublist (List.take_sublist _ _), ?_, ?_⟩
 ·rw [List.singleton_append, List.pairwise_cons]
  exact ⟨fun u hu => lay_drop h hf u hu, h.sublist (List.drop_sublist _ _)⟩
 ·intro a ha b hb
  rw [List.mem_append, List.mem_singleton] at hb
  rcases hb with rfl | hb
  ·exact lay_take h _ a ha
  ·exact ltS_trans (lay_take h v.nm a ha) (lay_drop h hf b hb)
theorem lay_mem {vs : List PV} {v u : PV} : u ∈ layP vs v ↔ u = v ∨ u ∈ vs := by
 unfold layP
 conv => rhs; rw [← List.take_append_drop (layI vs v.nm) vs]
 simp only [List.mem_append, List.mem_singleton]
 constructor
 ·rintro ((h | h) | h)
  ·exact .inr (.inl h)
  ·exact .inl h
  ·exact .inr (.inr h)
 ·rintro (h | h | h)
  ·exact .inl (.inr h)
  ·exact .inl (.inl h)
  ·exact .inr h
theorem lay_len (vs : List PV) (v : PV) : (layP vs v).length = vs.length + 1 := by
 have := layI_le vs v.nm
 unfold layP
 simp only [List.length_append, List.length_take, List.length_drop, List.length_singleton]
 omega
theorem plc_none {vs : List PV} {nm : ByteArray} (h : ∀ v ∈ vs, v.nm ≠ nm) : plcF vs nm 0 = -1 := by
 rcases plcF_spec vs nm 0 with ⟨e, _⟩ | ⟨i, hi, _, he⟩
 ·exact e
 ·exact absurd he (h _ (List.getElem_mem hi))
theorem plc_free {vs : List PV} {nm : ByteArray} (h : plcF vs nm 0 < 0) : ∀ v ∈ vs, v.nm ≠ nm := by
 rcases plcF_spec vs nm 0 with ⟨_, e⟩ | ⟨i, hi, e, _⟩
 ·exact e
 ·omega
theorem plc_there {vs : List PV} {nm : ByteArray} (h : 0 ≤ plcF vs nm 0) : ∃ k, ∃ hk : k < vs.length, plcF vs nm 0 = (k : Int) ∧ vs[k].nm = nm := by
 rcases plcF_spec vs nm 0 with ⟨e, _⟩ | ⟨i, hi, e, he⟩
 ·omega
 ·exact ⟨i, hi, by rw [e, Nat.zero_add], he⟩
theorem lay_erase {vs : List PV} (h : vs.Pairwise ltV) {k : Nat} (hk : k < vs.length) : layP (vs.eraseIdx k) vs[k] = vs := by
 have hs : (vs.eraseIdx k).Pairwise ltV := h.sublist (List.eraseIdx_sublist vs k)
 have hl := List.length_eraseIdx_of_lt hk
 have hsp := layI_spec hs vs[k].nm
 have hle := layI_le (vs.eraseIdx k) vs[k].nm
 have e : layI (vs.eraseIdx k) vs[k].nm = k := by
  rcases Nat.lt_trichotomy (layI (vs.eraseIdx k) vs[k].nm) k with q | q | q
  ·exfalso
   have h2 := hsp.2 (layI (vs.eraseIdx k) vs[k].nm) (by omega) (Nat.le_refl _)
   rw [List.getElem_eraseIdx_of_lt (by omega) q] at h2
   exact h2 (pw_get h (by omega) hk q)
  ·exact q
  ·exfalso
   have h2 := hsp.1 k (by omega) q
   rw [List.getElem_eraseIdx_of_ge (by omega) (Nat.le_refl _)] at h2
   exact ltS_asymm h2 (pw_get h hk (by omega) (by omega))
 unfold layP
 have e1 : (vs.take k).length = k := by rw [List.length_take]; omega
 rw [e, List.eraseIdx_eq_take_drop_succ, List.take_append_of_le_length (by omega), List.take_of_length_le (by omega), List.drop_append_of_le_length (by omega), List.drop_of_length_le (by omega), List.nil_append, List.append_assoc, List.singleton_append, List.getElem_cons_drop, List.take_append_drop]
end Go.Proofs.YtddddfankeepkaaGreatDoor
namespace Go.Proofs.YtddddfankeepkaaGreatDoor
open Go.RowKit
theorem pw64 {n : Int} (h : -9223372036854775808 ≤ n ∧ n ≤ 9223372036854775807) : wrap64 n = n := by unfold wrap64; omega
/-! ### ranges in their one form -/
structure NF (b : Int) (rs : List Rg) (sz : Int) : Prop where
 all : ∀ r ∈ rs, b < r.f ∧ r.f < r.t ∧ r.t ≤ sz
 apart : rs.Pairwise (fun a c => a.t < c.f)
theorem rgO_nf : ∀ (rs : List Rg) (b sz : Int), rgO rs b sz = true ↔ NF b rs sz
 | [], b, sz => ⟨fun _ => ⟨by simp, List.Pairwise.nil⟩, fun _ => rfl⟩
 | r :: l, b, sz => by
  unfold rgO
  constructor
  ·intro h
   split at h
   ·exact absurd h (by simp)
   split at h
   ·exact absurd h (by simp)
   split at h
   ·exact absurd h (by simp)
   have ih := (rgO_nf l r.t sz).1 h
   refine ⟨?_, List.pairwise_cons.2 ⟨fun c hc => (ih.all c hc).1, ih.apart⟩⟩
   intro q hq
   rcases List.mem_cons.1 hq with rfl | hq
   ·omega
   ·have := ih.all q hq; omega
  ·intro h
   have h1 := h.all r (by simp)
   rw [if_neg (by omega), if_neg (by omega), if_neg (by omega)]
   obtain ⟨h2, h3⟩ := List.pairwise_cons.1 h.apart
   exact (rgO_nf l r.t sz).2 ⟨fun c hc => ⟨h2 c hc, (h.all c (by simp [hc])).2⟩, h3⟩
theorem NF.nil (b sz : Int) : NF b [] sz := ⟨by simp, List.Pairwise.nil⟩
theorem NF.get {b sz : Int} {rs : List Rg} (h : NF b rs sz) {i j : Nat} (hi : i < rs.length) (hj : j < rs.length) (hij : i < j) : rs[i].t < rs[j].f := (List.pairwise_iff_getElem.1 h.apart) i j hi hj hij
theorem NF.at' {b sz : Int} {rs : List Rg} (h : NF b rs sz) {i : Nat} (hi : i < rs.length) : b < rs[i].f ∧ rs[i].f < rs[i].t ∧ rs[i].t ≤ sz := h.all _ (List.getElem_mem hi)
theorem metI_spec {b sz : Int} {rs : List Rg} (h : NF b rs sz) (r : Rg) : (∀ k (hk : k < rs.length), k < metI rs r → rs[k].t ≤ r.f) ∧ (∀ k (hk : k < rs.length), metI rs r ≤ k → r.f < rs[k].t) := by
 have := srch_all (fun h => decide (r.f < (rs.getD h ⟨0, 0⟩).t)) rs.length (fun x y hab hb hp => by
  rw [getD_lt (Nat.lt_of_le_of_lt hab hb)] at hp
  rw [getD_lt hb]
  simp only [decide_eq_true_eq] at *
  by_cases e : x = y
  ·subst e; exact hp
  ·have := h.get (Nat.lt_of_le_of_lt hab hb) hb (by omega)
   have := h.at' hb
   omega)
 refine ⟨fun k hk hl => ?_, fun k hk hl => ?_⟩
 ·have := this.1 k hl
  rw [getD_lt hk] at this
  simpa using this
 ·have := this.2 k hl hk
  rw [getD_lt hk] at this
  simpa using this
theorem metJ_spec {b sz : Int} {rs : List Rg} (h : NF b rs sz) (r : Rg) : (∀ k (hk : k < rs.length), metI rs r ≤ k → k < metI rs r + metJ rs r → rs[k].f < r.t) ∧ (∀ k (hk : k < rs.length), metI rs r + metJ rs r ≤ k → r.t ≤ rs[k].f) := by
 have hI := metI_le rs r
 have hD : ∀ k, k < rs.length - metI rs r → ∃ hk : metI rs r + k < rs.length, (rs.drop (metI rs r)).getD k ⟨0, 0⟩ = rs[metI rs r + k] := fun k hk => by
  refine ⟨by omega, ?_⟩
  rw [getD_lt (by rw [List.length_drop]; exact hk), List.getElem_drop]
 have := srch_all (fun h => decide (r.t ≤ ((rs.drop (metI rs r)).getD h ⟨0, 0⟩).f)) (rs.length - metI rs r) (fun x y hab hb hp => by
  obtain ⟨q1, e1⟩ := hD x (by omega)
  obtain ⟨q2, e2⟩ := hD y hb
  rw [e1] at hp
  rw [e2]
  simp only [decide_eq_true_eq] at *
  by_cases e : x = y
  ·subst e; exact hp
  ·have := h.get q1 q2 (by omega)
   have := h.at' q1
   omega)
 refine ⟨fun k hk h1 hl => ?_, fun k hk hl => ?_⟩
 ·obtain ⟨q1, e1⟩ := hD (k - metI rs r) (by omega)
  have := this.1 (k - metI rs r) (by show _ < metJ rs r; omega)
  rw [e1] at this
  simp only [decide_eq_false_iff_not, Int.not_le, show metI rs r + (k - metI rs r) = k by omega] at this
  exact this
 ·obtain ⟨q1, e1⟩ := hD (k - metI rs r) (by omega)
  have := this.2 (k - metI rs r) (by show metJ rs r ≤ _; omega) (by omega)
  rw [e1] at this
  simp only [decide_eq_true_eq, show metI rs r + (k - metI rs r) = k by omega] at this
  exact this
theorem NF.spl {b sz : Int} {rs : List Rg} (h : NF b rs sz) {i j : Nat} (hij : i ≤ j) {ys : List Rg} {sz' : Int} (hs : NF b ys sz') (h1 : ∀ k (hk : k < rs.length), k < i → rs[k].t ≤ sz' ∧ ∀ y ∈ ys, rs[k].t < y.f) (h2 : ∀ k (hk : k < rs.length), j ≤ k → rs[k].t ≤ sz' ∧ ∀ y ∈ ys, y.t < rs[k].f) : NF b (spl rs i j ys) sz' := by
 have mt : ∀ r ∈ rs.take i, ∃ k, ∃ hk : k < rs.length, k < i ∧ r = rs[k] := fun r hr => by
  obtain ⟨k, hk, rfl⟩ := List.getElem_of_mem hr
  rw [List.length_take] at hk
  exact ⟨k, by omega, by omega, List.getElem_take⟩
 have md : ∀ r ∈ rs.drop j, ∃ k, ∃ hk : k < rs.length, j ≤ k ∧ r = rs[k] := fun r hr => by
  obtain ⟨k, hk, rfl⟩ := List.getElem_of_mem hr
  rw [List.length_drop] at hk
  exact ⟨j + k, by omega, by omega, List.getElem_drop⟩
 unfold YtddddfankeepkaaGreatDoor.spl
 refine ⟨?_, ?_⟩
 ·intro r hr
  simp only [List.mem_append] at hr
  rcases hr with (hr | hr) | hr
  ·obtain ⟨k, hk, hki, rfl⟩ := mt r hr
   have := h.at' hk
   have := (h1 k hk hki).1
   omega
  ·exact hs.all r hr
  ·obtain ⟨k, hk, hki, rfl⟩ := md r hr
   have := h.at' hk
   have := (h2 k hk hki).1
   omega
 ·rw [List.append_assoc, List.pairwise_append]
  refine ⟨h.apart.sublist (List.take_sublist _ _), ?_, ?_⟩
  ·rw [List.pairwise_append]
   refine ⟨hs.apart, h.apart.sublist (List.drop_sublist _ _), ?_⟩
   intro a ha c hc
   obtain ⟨k, hk, hki, rfl⟩ := md c hc
   exact (h2 k hk hki).2 a ha
  ·intro a ha c hc
   obtain ⟨k, hk, hki, rfl⟩ := mt a ha
   rw [List.mem_append] at hc
   rcases hc with hc | hc
   ·exact (h1 k hk hki).2 c hc
   ·obtain ⟨k', hk', hkj, rfl⟩ := md c hc
    exact h.get hk hk' (by omega)
theorem NF.one {b sz : Int} {r : Rg} (h : b < r.f ∧ r.f < r.t ∧ r.t ≤ sz) : NF b [r] sz := ⟨by simpa using h, by simp⟩
theorem emp_iff (r : Rg) : emp r = true ↔ r.t ≤ r.f := by unfold emp; simp
theorem NF.join {b sz : Int} {rs : List Rg} (h : NF b rs sz) (hb : -1 ≤ b) {r : Rg} (h1 : b < r.f) (h2 : r.t ≤ sz) (h3 : sz ≤ 262144) : NF b (joinP rs r) sz := by
 unfold joinP
 by_cases he : emp r = true
 ·rw [if_pos he]; exact h
 rw [if_neg he]
 rw [emp_iff] at he
 have w1 : (wid r).f = r.f - 1 := by show wrap64 _ = _; rw [pw64 (by omega)]
 have w2 : (wid r).t = r.t + 1 := by show wrap64 _ = _; rw [pw64 (by omega)]
 have sI := metI_spec h (wid r)
 have sJ := metJ_spec h (wid r)
 have lI := metI_le rs (wid r)
 have lJ := metJ_le rs (wid r)
 rw [w1] at sI
 rw [w2] at sJ
 generalize metI rs (wid r) = i at *
 generalize metJ rs (wid r) = j at *
 by_cases hj : j = 0
 ·rw [if_pos hj]
  subst hj
  refine h.spl (Nat.le_refl _) (NF.one ⟨h1, by omega, h2⟩) (fun k hk hl => ⟨(h.at' hk).2.2, ?_⟩) (fun k hk hl => ⟨(h.at' hk).2.2, ?_⟩)
  ·have := sI.1 k hk hl
   simp only [List.mem_singleton, forall_eq]
   omega
  ·have := sJ.2 k hk (by omega)
   simp only [List.mem_singleton, forall_eq]
   omega
 ·rw [if_neg hj]
  have hi : i < rs.length := by omega
  have hl : i + j - 1 < rs.length := by omega
  rw [getD_lt hi, getD_lt hl]
  have a1 := h.at' hi
  have a2 := h.at' hl
  refine h.spl (by omega) (NF.one ⟨by show b < min _ _; omega, by show min _ _ < max _ _; omega, by show max _ _ ≤ _; omega⟩) (fun k hk hkl => ⟨(h.at' hk).2.2, ?_⟩) (fun k hk hkl => ⟨(h.at' hk).2.2, ?_⟩)
  ·have := sI.1 k hk hkl
   have := h.get hk hi hkl
   simp only [List.mem_singleton, forall_eq]
   omega
  ·have := sJ.2 k hk (by omega)
   have := h.get hl hk (by omega)
   simp only [List.mem_singleton, forall_eq]
   omega
theorem NF.cut {b sz sz' : Int} {rs : List Rg} (h : NF b rs sz) {r : Rg} (h1 : b < r.f) (h2 : ∀ k (hk : k < rs.length), (rs[k].t ≤ r.f ∨ r.t ≤ rs[k].f) → rs[k].t ≤ sz') (h3 : r.f ≤ sz') (h4 : sz ≤ sz' ∨ sz ≤ r.t) (h5 : r.f < r.t ∨ sz ≤ sz') : NF b (cutP rs r) sz' := by
 have hall : (∀ k (hk : k < rs.length), rs[k].t ≤ sz') → NF b rs sz' := fun hq => ⟨fun q hq' => by
  obtain ⟨k, hk, rfl⟩ := List.getElem_of_mem hq'
  have := h.at' hk
  have := hq k hk
  omega, h.apart⟩
 unfold cutP
 by_cases he : emp r = true
 ·rw [if_pos he]
  rw [emp_iff] at he
  exact hall (fun k hk => by have := h.at' hk; omega)
 rw [if_neg he]
 rw [emp_iff] at he
 have sI := metI_spec h r
 have sJ := metJ_spec h r
 have lI := metI_le rs r
 have lJ := metJ_le rs r
 generalize metI rs r = i at *
 generalize metJ rs r = j at *
 by_cases hj : j = 0
 ·rw [if_pos hj]
  refine hall (fun k hk => h2 k hk ?_)
  by_cases hk2 : k < i
  ·exact .inl (sI.1 k hk hk2)
  ·exact .inr (sJ.2 k hk (by omega))
 ·rw [if_neg hj]
  have hi : i < rs.length := by omega
  have hl : i + j - 1 < rs.length := by omega
  rw [getD_lt hi, getD_lt hl]
  have a1 := h.at' hi
  have a2 := h.at' hl
  have a3 := sI.2 i hi (Nat.le_refl _)
  have a4 := sJ.1 _ hl (by omega) (by omega)
  have hys : ∀ y ∈ [(⟨rs[i].f, r.f⟩ : Rg), ⟨r.t, rs[i + j - 1].t⟩].filter nem, (y.f = rs[i].f ∧ y.t = r.f ∨ y.f = r.t ∧ y.t = rs[i + j - 1].t) ∧ y.f < y.t := fun y hy => by
   rw [List.mem_filter] at hy
   obtain ⟨m, n⟩ := hy
   have n' : y.f < y.t := by
    unfold nem at n
    cases e : emp y
    ·have := mt (emp_iff y).2 (by rw [e]; simp); omega
    ·rw [e] at n; exact absurd n (by simp)
   rcases List.mem_cons.1 m with rfl | m
   ·exact ⟨.inl ⟨rfl, rfl⟩, n'⟩
   ·rw [List.mem_singleton] at m
    subst m
    exact ⟨.inr ⟨rfl, rfl⟩, n'⟩
  refine h.spl (by omega) ⟨fun y hy => ?_, ?_⟩ (fun k hk hkl => ⟨h2 k hk (.inl (sI.1 k hk hkl)), fun y hy => ?_⟩) (fun k hk hkl => ⟨h2 k hk (.inr (sJ.2 k hk hkl)), fun y hy => ?_⟩)
  ·obtain ⟨q, q'⟩ := hys y hy
   omega
  ·refine List.Pairwise.filter _ ?_
   simp
   omega
  ·obtain ⟨q, q'⟩ := hys y hy
   have := sI.1 k hk hkl
   have := h.get hk hi hkl
   omega
  ·obtain ⟨q, q'⟩ := hys y hy
   have := sJ.2 k hk hkl
   have := h.get hl hk (by omega)
   omega
theorem NF.cut_in {sz : Int} {rs : List Rg} (h : NF (-1) rs sz) {r : Rg} (h1 : 0 ≤ r.f) (h2 : r.f ≤ sz) : NF (-1) (cutP rs r) sz :=
 h.cut (by omega) (fun k hk _ => (h.at' hk).2.2) h2 (.inl (Int.le_refl _)) (.inr (Int.le_refl _))
theorem NF.cut_end {sz n : Int} {rs : List Rg} (h : NF (-1) rs sz) (hs : sz ≤ 262144) (h1 : 1 ≤ n) (h2 : n ≤ 262144) : NF (-1) (cutP rs ⟨n, 262144⟩) n := by
 refine h.cut (by show (-1 : Int) < n; omega) (fun k hk q => ?_) (Int.le_refl _) (.inr hs) ?_
 ·have := h.at' hk
  rcases q with q | q
  ·exact q
  ·have q : (262144 : Int) ≤ rs[k].f := q
   omega
 ·by_cases e : n = 262144
  ·exact .inr (by omega)
  ·exact .inl (by show n < 262144; omega)
end Go.Proofs.YtddddfankeepkaaGreatDoor
