import Derived.Test.YthkkdmblkalknaaGreatDoorA10
import Derived.Test.YthkkdmblkalknaaGreatDoorA12
import Derived.Test.YthkkdmblkalknaaGreatDoorA11
/-
  CopyBytes, CopyOp, CopyOps.
-/
namespace Go.Proofs.YthkkdmblkalknaaGreatDoor
open Go.RowKit

theorem results_row1 {P : Program} {fn : Func} {p : Tmp} {ty : TypeId} (h : fn.results = #[.cell p ty]) (tmps : Array Value) (w : World) (g : Nat) (t : TypeId) (cs : Array Value) (fr : Nat × Nat) (d : TypeDesc)
    (hp : tmps.getD p undef = .pointer (some ⟨g, 0, none⟩)) (hb : w.heap[g]? = some (.cells cs t fr)) (hu : P.underlying ty = some d) (hd : (match d with | .struct _ | .array _ _ => true | _ => false) = true) (hs : (P.info? ty).map (·.size) = some cs.size) : (results fn tmps).run P w = .ok (.agg cs) w := by
  have hp' := hp
  simp only [Array.getD_eq_getD_getElem?] at hp'
  simp only [results, h]
  simp [hp', asAddr, run_loadVar_row w g t ty cs fr d hb hu hd hs]
set_option maxRecDepth 100000 in
set_option maxHeartbeats 1000000 in
theorem CopyBytes_any (a : Option Addr) (n c : Nat) (zs : List Int) (w : World) {B : Nat} (h : Rd B w a n zs) (ha : a = none → c = 0) (hn : n ≤ 16777216) (hB : B ≤ w.heap.size) :
    Calls Tryz.prog 17 #[.slice a n c] w fun e w' => ∃ v, e = .returned v ∧ Ow w.heap.size w' v zs ∧ Below w.heap.size w w' := by
  have ow0 : Ow w.heap.size (w.alloc (.cells #[] 5)) (.slice (some ⟨w.heap.size, 0, none⟩) 0 0) [] := ⟨rfl, .inr ⟨w.heap.size, 0, #[], rfl, Nat.le_refl _, heap_new _ _, Nat.le_refl _, Nat.zero_le _, rfl, rfl⟩⟩
  have b0 : Below w.heap.size w (w.alloc (.cells #[] 5)) := below1 _ _
  obtain ⟨v', w', hr, ho, hg⟩ := app_rd 23 ow0 ((h.mono hB).below b0) ha (by omega) (by simp) (by simp)
  have HO := hid ho
  have HB := hid (b0.trans (hg.below (by simp) (fun g e => by simp [Value.ownBlock] at e; omega)))
  clear ow0 b0 h ha hB ho hg
  go_enter Tryz.func17, Tryz.ntmps17
  go_wp2_with (at_builtin; refine Lib.wpList_append_run _ rfl _ _ _ _ rfl _ _ rfl rfl _ _ hr ?_)
  go_ret
  exact ⟨v', rfl, by simpa using HO.out, HB.out⟩

theorem results_op1 {fn : Func} {p : Tmp} (h : fn.results = #[.cell p 29]) (tmps : Array Value) (w : World) (R : Nat) (o : PO) (v : Value) (hp : tmps.getD p undef = .pointer (some ⟨R, 0, none⟩)) (hB : OpB w R o v) :
    (results fn tmps).run Tryz.prog w = .ok (.agg #[.int .i64 o.k, .string o.nm, .string o.ot, .int .i64 o.fr, .int .i64 o.to, v]) w :=
  results_row1 h tmps w R 29 _ (0, 0) _ hp hB Tryz.underlying29 rfl (by kernel_rfl)
set_option maxRecDepth 100000 in
set_option maxHeartbeats 1000000 in
theorem CopyOp_any (o : PO) (a : Option Addr) (c : Nat) (w : World) (h : Rd w.heap.size w a o.da.length o.da) (ha : a = none → c = 0) (hn : o.da.length ≤ 16777216) :
    Calls Tryz.prog 11 #[.agg #[.int .i64 o.k, .string o.nm, .string o.ot, .int .i64 o.fr, .int .i64 o.to, .slice a o.da.length c]] w fun e w' => ∃ v, e = .returned (.agg #[.int .i64 o.k, .string o.nm, .string o.ot, .int .i64 o.fr, .int .i64 o.to, v]) ∧ Ow w.heap.size w' v o.da ∧ Below w.heap.size w w' := by
  obtain ⟨R, hR⟩ : ∃ R, R = w.heap.size := ⟨_, rfl⟩
  obtain ⟨W0, hW0⟩ : ∃ W0, W0 = (w.alloc (.cells #[.int .i64 o.k, .string o.nm, .string o.ot, .int .i64 o.fr, .int .i64 o.to, .slice a o.da.length c] 29)).alloc (.cells #[.int .i64 0, .string cE, .string cE, .int .i64 0, .int .i64 0, .slice none 0 0] 29) := ⟨_, rfl⟩
  have b0 : Below w.heap.size w W0 := by rw [hW0]; exact ((Below.refl _ _).alloc (Nat.le_refl _) _).alloc (by simp) _
  have z0 : W0.heap.size = R + 2 := by rw [hW0, hR]; simp
  have r0 : OpB W0 R o (.slice a o.da.length c) := by
    unfold OpB
    rw [hW0, hR, Below.heap_alloc _ _ _ (by simp)]
    exact heap_new _ _
  have r1 : OpB W0 (R + 1) PO0 (.slice none 0 0) := by
    have := heap_new (w.alloc (.cells #[.int .i64 o.k, .string o.nm, .string o.ot, .int .i64 o.fr, .int .i64 o.to, .slice a o.da.length c] 29)) (.cells #[.int .i64 0, .string cE, .string cE, .int .i64 0, .int .i64 0, .slice none 0 0] 29)
    rw [World.size_alloc, ← hR, ← hW0] at this
    exact this
  have HC : Hid (Calls Tryz.prog 17 #[.slice a o.da.length c] W0 fun e w2 => ∃ va vn vc, e = .returned (.slice va vn vc) ∧ (OpB w2 R o (.slice a o.da.length c) ∧ OpB w2 (R + 1) PO0 (.slice none 0 0)) ∧ OpB (put6 (w2.setCell ⟨R, 5, none⟩ (.slice va vn vc)) (R + 1) o (.slice va vn vc)) (R + 1) o (.slice va vn vc) ∧ Ow w.heap.size (put6 (w2.setCell ⟨R, 5, none⟩ (.slice va vn vc)) (R + 1) o (.slice va vn vc)) (.slice va vn vc) o.da ∧ Below w.heap.size w (put6 (w2.setCell ⟨R, 5, none⟩ (.slice va vn vc)) (R + 1) o (.slice va vn vc))) := by
    refine (CopyBytes_any a o.da.length c o.da W0 (h.below b0) ha hn b0.size).mono ?_
    rintro e w2 ⟨v, rfl, ho, hb⟩
    obtain ⟨va, vc, rfl⟩ := ho.form
    have s0 : OpB w2 R o (.slice a o.da.length c) := r0.keep (hb.block _ r0.lt)
    have s1 : OpB w2 (R + 1) PO0 (.slice none 0 0) := r1.keep (hb.block _ r1.lt)
    have e1 : But (fun x => x = R) w2 (w2.setCell ⟨R, 5, none⟩ (.slice va o.da.length vc)) := (But.refl (fun x => x = R) w2).setCell (p := ⟨R, 5, none⟩) rfl _
    have s2 : OpB (w2.setCell ⟨R, 5, none⟩ (.slice va o.da.length vc)) R o (.slice va o.da.length vc) := s0.set (o' := o) (v' := .slice va o.da.length vc) 5 _ rfl
    have s3 : OpB (w2.setCell ⟨R, 5, none⟩ (.slice va o.da.length vc)) (R + 1) PO0 (.slice none 0 0) := s1.keep (e1.block _ s1.lt (by omega))
    have e2 := but_put6 (w2.setCell ⟨R, 5, none⟩ (.slice va o.da.length vc)) (R + 1) o (.slice va o.da.length vc)
    have hz := hb.size
    refine ⟨va, _, vc, rfl, ⟨s0, s1⟩, s3.put6 o _, (ho.mono b0.size).keep fun g hg => ?_, ?_⟩
    · have q1 := ho.base g hg
      have q2 := ho.lt g hg
      exact (e2.block g (Nat.lt_of_lt_of_le q2 e1.size) (by omega)).trans (e1.block g q2 (by omega))
    · have := e1.size
      exact ((b0.trans (hb.mono b0.size)).trans (e1.below (by omega) (fun x hx e => by omega))).trans (e2.below (by omega) (fun x hx e => by omega))
  have HW0 := hid hW0
  have HR := hid hR
  clear hW0 b0 z0 r0 r1 h ha hn
  generalize o.da.length = n at *
  go_enter Tryz.func11, Tryz.ntmps11
  go_wp2_with fail
  rw [← HW0.out]
  try rw [← HR.out]
  refine HC.out.mono ?_
  rintro e w2 ⟨va, vn, vc, rfl, ⟨s0, s3⟩, p1, p2, p3⟩
  have HP1 := hid p1
  have HP2 := hid p2
  have HP3 := hid p3
  obtain ⟨⟨c0, c1, c2, c3, c4, c5⟩, ⟨y0, y1, y2, y3, y4, y5⟩⟩ := s0.cs
  obtain ⟨⟨g0, g1, g2, g3, g4, g5⟩, ⟨z0, z1, z2, z3, z4, z5⟩⟩ := s3.cs
  clear p1 p2 p3 s0 s3 HC HW0 hR
  go_wp2_with fail
  have HFin : Hid (∀ x, x = put6 (w2.setCell ⟨R, 5, none⟩ (.slice va vn vc)) (R + 1) o (.slice va vn vc) → OpB x (R + 1) o (.slice va vn vc) ∧ Ow w.heap.size x (.slice va vn vc) o.da ∧ Below w.heap.size w x) := by
    rintro x rfl
    exact ⟨HP1.out, HP2.out, HP3.out⟩
  exact bodyPost_ret (results_op1 rfl _ _ (R + 1) o (.slice va vn vc) rfl (HFin.out _ rfl).1) rfl ⟨_, rfl, (HFin.out _ rfl).2⟩

end Go.Proofs.YthkkdmblkalknaaGreatDoor
/-
  CopyOps.
-/
namespace Go.Proofs.YthkkdmblkalknaaGreatDoor
open Go.RowKit

/-- within CopyOps -/
structure CpS (w wr : World) (v : Value) (os : List PO) : Prop where
  ow : ∃ vs, OwL w.heap.size wr v os vs
  bel : Below w.heap.size w wr
set_option maxRecDepth 100000 in
set_option maxHeartbeats 4000000 in
theorem CopyOps_any (x : Option Addr) (c : Nat) (os : List PO) (w : World) (hl : os.length ≤ 16777216) (hR : RdO w.heap.size w x os) :
    Calls Tryz.prog 14 #[.slice x os.length c] w fun e w' => ∃ u vs, e = .returned u ∧ OwL w.heap.size w' u os vs ∧ Below w.heap.size w w' := by
  have c00 : CpS w (w.alloc (.cells #[] 29)) (.slice (some ⟨w.heap.size, 0, none⟩) 0 0) [] := by
    refine ⟨⟨[], rfl, ⟨rfl, .inr ⟨w.heap.size, 0, #[], rfl, Nat.le_refl _, heap_new _ _, Nat.le_refl _, Nat.zero_le _, rfl, rfl⟩⟩, fun i h => by simp at h, fun i j hi hj => by simp at hj⟩, below1 _ _⟩
  have HSTEP : Hid (∀ (wr : World) (r : Nat) (hr : r < os.length) (u : Value), CpS w wr u (os.take r) → ∃ b off a cp, x = some ⟨b, off, none⟩ ∧ OpC wr b (off + r * 6) os[r] a cp ∧ Calls Tryz.prog 11 #[.agg #[.int .i64 os[r].k, .string os[r].nm, .string os[r].ot, .int .i64 os[r].fr, .int .i64 os[r].to, .slice a os[r].da.length cp]] wr fun e w2 => ∃ va vn vc u' w', e = .returned (.agg #[.int .i64 os[r].k, .string os[r].nm, .string os[r].ot, .int .i64 os[r].fr, .int .i64 os[r].to, .slice va vn vc]) ∧ (Builtin.append_ #[22, 22] 22 #[u, .slice (some ⟨w2.heap.size, 0, none⟩) 1 1]).run Tryz.prog (w2.alloc (.cells #[.int .i64 os[r].k, .string os[r].nm, .string os[r].ot, .int .i64 os[r].fr, .int .i64 os[r].to, .slice va vn vc] 29)) = .ok u' w' ∧ CpS w w' u' (os.take (r + 1))) := by
    intro wr r hr u hS
    have hR2 := hR.below hS.bel
    obtain ⟨b, off, rfl, hbl, hc⟩ := hR2.2.resolve_left (fun e => by rw [e] at hr; simp at hr)
    obtain ⟨a, cp, hO, r1, ha⟩ := hc r hr
    have hok := hR2.1 (os[r]'hr) (List.getElem_mem hr)
    refine ⟨b, off, a, cp, rfl, hO, (CopyOp_any os[r] a cp wr (r1.mono hS.bel.size) ha hok.da).mono ?_⟩
    rintro e w2 ⟨v, rfl, ho, hb2⟩
    obtain ⟨va, vc, rfl⟩ := ho.form
    obtain ⟨vs, how⟩ := hS.ow
    have b3 : Below w2.heap.size w2 (w2.alloc (.cells #[.int .i64 os[r].k, .string os[r].nm, .string os[r].ot, .int .i64 os[r].fr, .int .i64 os[r].to, .slice va os[r].da.length vc] 29)) := below1 _ _
    have hz := hb2.size
    have hzw := hS.bel.size
    have how2 := (how.next hb2).next b3
    obtain ⟨u', w', hr', hL, hg⟩ := how2.push 22 os[r] (.slice va os[r].da.length vc) ((ho.mono hS.bel.size).next b3) (fun i hi g hgi e => by
      have q1 := (how.dat i (by rw [← how.len]; exact hi)).lt g hgi
      have q2 := ho.base g e
      omega) (g := w2.heap.size) (heap_new _ _) (by rw [List.length_take]; omega) (by have := b3.size; omega)
    refine ⟨va, _, vc, u', w', rfl, hr', ⟨vs ++ [.slice va os[r].da.length vc], ?_⟩, ?_⟩
    · rw [List.take_succ_eq_append_getElem hr]
      exact hL
    · exact (hS.bel.trans (hb2.mono hzw)).trans ((b3.mono (by omega)).trans (hg.below (by have := b3.size; omega) (fun g hg => (own_blk how2.row hg).1)))
  have HC0 := hid c00
  clear c00 hR
  go_enter Tryz.func14, Tryz.ntmps14
  go_wp2_with fail
  go_loopw [3, 4] (fun u i wr => ∃ r : Nat, r ≤ os.length ∧ i = .int .i64 (r : Int) ∧ CpS w wr u (os.take r)) (fun _ i _ => os.length - (intOf i).toNat)
  case atStart => exact ⟨0, Nat.zero_le _, rfl, HC0.out⟩
  case round =>
    clear HC0
    obtain ⟨r, hr, rfl, hS⟩ := hrel
    by_cases hlt : r < os.length
    · obtain ⟨b, off, a, cp, rfl, ⟨c0, c1, c2, c3, c4, c5⟩, hC⟩ := HSTEP.out wr r hlt _ hS
      have HC := hid hC
      have hr1 : (r : Int) < (os.length : Int) := by omega
      clear hC hS HSTEP
      go_wp2_with fail
      refine HC.out.mono ?_
      rintro e w2 ⟨va, vn, vc, u', w', rfl, hrun, hS2⟩
      have HS2 := hid hS2
      clear hS2 HC c0 c1 c2 c3 c4 c5
      go_wp2_with (at_builtin; refine Lib.wpList_append_run _ rfl _ _ _ _ rfl _ _ rfl rfl _ _ hrun ?_)
      go_roundw
      case rel => exact ⟨r + 1, by omega, by go_num, HS2.out⟩
      case measure => simp [intOf]; omega
    · have e : r = os.length := by omega
      subst e
      have HS := hid hS
      clear hS HSTEP
      go_wp2
      go_ret
      obtain ⟨vs, hL⟩ := HS.out.ow
      rw [List.take_length] at hL
      exact ⟨_, vs, rfl, hL, HS.out.bel⟩

end Go.Proofs.YthkkdmblkalknaaGreatDoor
/-
  The document's example, in plain words.
-/
namespace Go.Proofs.YthkkdmblkalknaaGreatDoor
open Go.RowKit

def awA : PO := ⟨1, ⟨#[97]⟩, cE, 0, 10, []⟩
def awB : PO := ⟨5, ⟨#[97]⟩, ⟨#[98]⟩, 0, 0, []⟩
def awL : List PO := [awA, awB]
def awZ : List Int := [1, 1, 97, 10, 0, 0, 0, 5, 1, 97, 1, 98]
def awT : ByteArray := ⟨#[99, 114, 101, 97, 116, 101, 32, 97, 32, 49, 48, 10, 114, 101, 110, 97, 109, 101, 32, 97, 32, 116, 111, 32, 98, 10]⟩
theorem aw_ck : awA.ck = 0 := by kernel_rfl
theorem aw_ckA : ckA awL = 0 := by kernel_rfl
theorem aw_prg : prg awL = 0 := by kernel_rfl
theorem aw_enc : (encL awL).length = 12 := by kernel_rfl
theorem aw_dcd : dcd awZ = (awL, 0) := by kernel_rfl
theorem aw_prt : (⟨(prtL awL).toArray⟩ : ByteArray) = awT := by kernel_rfl
theorem aw_prs : prs awT = (awL, 0, 0) := by kernel_rfl

end Go.Proofs.YthkkdmblkalknaaGreatDoor
/-
  awake: the calls of its chain.
-/
namespace Go.Proofs.YthkkdmblkalknaaGreatDoor
open Go.RowKit

theorem OwL.rdo {B : Nat} {w : World} {v : Value} {os : List PO} {vs : List Value} (h : OwL B w v os vs) (hok : ∀ o ∈ os, okO o) (hb : ∀ o ∈ os, Pl.isB o.da) : ∃ a c, v = .slice a os.length c ∧ os.length ≤ c ∧ RdO w.heap.size w a os ∧ (a = none → c = 0) := by
  have hc := fun g => World.ownsRow.cells (g := g) h.row
  have hlt := fun g (hg : v.ownBlock = some g) => (own_blk h.row hg).2.1
  have hrow := h.row
  rcases hrow.2 with ⟨rfl, q⟩ | ⟨g', cap, cur, rfl, hb', hh, r1, r2, r3, r4⟩
  · exact ⟨none, 0, by rw [q], by omega, ⟨hok, .inl (List.eq_nil_of_length_eq_zero q)⟩, fun _ => rfl⟩
  · refine ⟨some ⟨g', 0, none⟩, cap, rfl, r1, ⟨hok, .inr ⟨g', 0, rfl, hlt g' rfl, fun t ht => ?_⟩⟩, fun e => by cases e⟩
    have hl := h.len
    obtain ⟨a, c, e1, e2, e3, e4⟩ := (h.dat t ht).rd (hb _ (List.getElem_mem ht))
    have k : ∀ i u, i < 6 → (cells6 os[t] (vs[t]'(by omega)))[i]? = some u → w.cell? ⟨g', 0 + t * 6 + i, none⟩ = some u := fun i u hi hu => by
      have := hc g' rfl (t * 6 + i) u (by rw [flatO_at os vs hl t ht i hi]; exact hu)
      rw [Addr.add_lit] at this
      rw [show 0 + t * 6 + i = 0 + (t * 6 + i) by omega]
      exact this
    refine ⟨a, c, ⟨?_, k 1 _ (by omega) rfl, k 2 _ (by omega) rfl, k 3 _ (by omega) rfl, k 4 _ (by omega) rfl, ?_⟩, e3, e4⟩
    · exact k 0 _ (by omega) rfl
    · exact k 5 _ (by omega) (by simp [cells6, e1])
theorem aw_ok : ∀ o ∈ awL, okO o := by
  intro o ho
  simp only [awL, List.mem_cons, List.not_mem_nil, or_false] at ho
  rcases ho with rfl | rfl
  · exact ⟨by decide, by decide, by decide, by decide, by decide, by decide, by decide, by decide, by decide⟩
  · exact ⟨by decide, by decide, by decide, by decide, by decide, by decide, by decide, by decide, by decide⟩
theorem aw_isB : ∀ o ∈ awL, Pl.isB o.da := by
  intro o ho
  simp only [awL, List.mem_cons, List.not_mem_nil, or_false] at ho
  rcases ho with rfl | rfl <;> (intro z hz; cases hz)
def awC : Array Value := #[.int .i64 1, .string ⟨#[97]⟩, .string ⟨#[]⟩, .int .i64 0, .int .i64 10, .slice none 0 0, .int .i64 5, .string ⟨#[97]⟩, .string ⟨#[98]⟩, .int .i64 0, .int .i64 0, .slice none 0 0]
def awD : Array Value := #[.int .u8 1, .int .u8 1, .int .u8 97, .int .u8 10, .int .u8 0, .int .u8 0, .int .u8 0, .int .u8 5, .int .u8 1, .int .u8 97, .int .u8 1, .int .u8 98]
theorem aw_rdo (w : World) : RdO (w.heap.size + 1) (w.alloc (.cells awC 29)) (some ⟨w.heap.size, 0, none⟩) awL := by
  refine ⟨aw_ok, .inr ⟨w.heap.size, 0, rfl, by omega, fun t ht => ?_⟩⟩
  have hh := heap_new w (.cells awC 29)
  have k : ∀ i, (w.alloc (.cells awC 29)).cell? ⟨w.heap.size, i, none⟩ = awC[i]? := fun i => by simp only [World.cell?, hh]; rfl
  simp only [awL, List.length_cons, List.length_nil] at ht
  have nz : ∀ B, Rd B (w.alloc (.cells awC 29)) none 0 [] := fun B => ⟨rfl, (fun z hz => by cases hz), .inl rfl⟩
  match t, ht with
  | 0, _ => exact ⟨none, 0, ⟨k _, k _, k _, k _, k _, k _⟩, nz _, fun _ => rfl⟩
  | 1, _ => exact ⟨none, 0, ⟨k _, k _, k _, k _, k _, k _⟩, nz _, fun _ => rfl⟩
theorem aw_rdc (w : World) : RdC (w.heap.size + 1) (w.alloc (.cells awD 5 (12, 13))) (.slice (some ⟨w.heap.size, 0, none⟩) 12 12) awZ := by
  refine ⟨(fun z hz => by simp only [awZ, List.mem_cons, List.not_mem_nil, or_false] at hz; omega), .inr ⟨w.heap.size, 0, 12, rfl, by decide, by omega, fun t ht => ?_⟩⟩
  have hh := heap_new w (.cells awD 5 (12, 13))
  simp only [World.cell?, hh, Nat.zero_add]
  have : t < 12 := ht
  match t, this with
  | 0, _ | 1, _ | 2, _ | 3, _ | 4, _ | 5, _ | 6, _ | 7, _ | 8, _ | 9, _ | 10, _ | 11, _ => rfl
theorem aw_len : (prtL awL).length = 26 := by kernel_rfl
/-- the calls of awake -/
def AwK (b : Nat) (W0 : World) (Q : World → Prop) : Prop :=
  Calls Tryz.prog 12 #[.slice (some ⟨b, 0, none⟩) 2 2] W0 fun e w1 => ∃ xa xc, e = .returned (.tuple #[.slice xa 12 xc, .int .i64 0]) ∧
    Calls Tryz.prog 16 #[.slice (some ⟨w1.heap.size, 0, none⟩) 12 12] (w1.alloc (.cells #[.int .u8 1, .int .u8 1, .int .u8 97, .int .u8 10, .int .u8 0, .int .u8 0, .int .u8 0, .int .u8 5, .int .u8 1, .int .u8 97, .int .u8 1, .int .u8 98] 5 (12, 13))) fun e w3 => ∃ da dc, e = .returned (.tuple #[.slice da 2 dc, .int .i64 0]) ∧
    Calls Tryz.prog 15 #[.slice (some ⟨b, 0, none⟩) 2 2] w3 fun e w4 => e = .returned (.tuple #[.string ⟨#[99, 114, 101, 97, 116, 101, 32, 97, 32, 49, 48, 10, 114, 101, 110, 97, 109, 101, 32, 97, 32, 116, 111, 32, 98, 10]⟩, .int .i64 0]) ∧
    Calls Tryz.prog 18 #[.string ⟨#[99, 114, 101, 97, 116, 101, 32, 97, 32, 49, 48, 10, 114, 101, 110, 97, 109, 101, 32, 97, 32, 116, 111, 32, 98, 10]⟩] w4 fun e w5 => ∃ pa pc, e = .returned (.tuple #[.slice pa 2 pc, .int .i64 0, .int .i64 0]) ∧
    (w5.cell? ⟨b, 0, none⟩ = some (.int .i64 1) ∧ w5.cell? ⟨b, 1, none⟩ = some (.string ⟨#[97]⟩) ∧ w5.cell? ⟨b, 2, none⟩ = some (.string ⟨#[]⟩) ∧ w5.cell? ⟨b, 3, none⟩ = some (.int .i64 0) ∧ w5.cell? ⟨b, 4, none⟩ = some (.int .i64 10) ∧ w5.cell? ⟨b, 5, none⟩ = some (.slice none 0 0)) ∧
    Calls Tryz.prog 10 #[.agg #[.int .i64 1, .string ⟨#[97]⟩, .string ⟨#[]⟩, .int .i64 0, .int .i64 10, .slice none 0 0]] w5 fun e w6 => e = .returned (.int .i64 0) ∧
    Calls Tryz.prog 31 #[.slice (some ⟨b, 0, none⟩) 2 2] w6 fun e w7 => e = .returned (.int .i64 0) ∧
    Calls Tryz.prog 19 #[.slice da 2 dc, .slice (some ⟨b, 0, none⟩) 2 2] w7 fun e w8 => e = .returned (.bool true) ∧
    Calls Tryz.prog 19 #[.slice pa 2 pc, .slice (some ⟨b, 0, none⟩) 2 2] w8 fun e w9 => e = .returned (.bool true) ∧ Q w9
set_option maxRecDepth 100000 in
theorem awK_any (w : World) (hG : GT w) : AwK w.heap.size (w.alloc (.cells awC 29)) fun w9 => Below w.heap.size w w9 := by
  have b0 : Below w.heap.size w (w.alloc (.cells awC 29)) := below1 _ _
  have z0 : (w.alloc (.cells awC 29)).heap.size = w.heap.size + 1 := by simp
  have rd0 := aw_rdo w
  rw [← z0] at rd0
  have g0 := hG.next b0
  have kc : ∀ i, (w.alloc (.cells awC 29)).cell? ⟨w.heap.size, i, none⟩ = awC[i]? := fun i => by simp only [World.cell?, heap_new]; rfl
  generalize w.alloc (.cells awC 29) = W0 at b0 z0 rd0 g0 kc ⊢
  refine (Encode_any (some ⟨w.heap.size, 0, none⟩) 2 awL W0 (by decide) (by rw [aw_enc]; decide) g0 rd0).mono ?_
  rintro e w1 ⟨x, rfl, ox, b1⟩
  rw [aw_ckA, if_pos rfl] at ox
  obtain ⟨xa, xc, rfl⟩ := ox.form
  rw [aw_enc, aw_ckA]
  refine ⟨xa, xc, rfl, ?_⟩
  have b2 : Below w1.heap.size w1 (w1.alloc (.cells awD 5 (12, 13))) := below1 _ _
  have z2 : (w1.alloc (.cells awD 5 (12, 13))).heap.size = w1.heap.size + 1 := by simp
  have rc := aw_rdc w1
  rw [← z2] at rc
  have b12 : Below W0.heap.size W0 (w1.alloc (.cells awD 5 (12, 13))) := b1.trans (b2.mono b1.size)
  show Calls Tryz.prog 16 _ (w1.alloc (.cells awD 5 (12, 13))) _
  generalize w1.alloc (.cells awD 5 (12, 13)) = w2 at b2 z2 rc b12 ⊢
  refine (Decode_any _ awZ w2 (g0.next b12) (by decide) rc).mono ?_
  rintro e w3 ⟨u, vs, rfl, ou, b3⟩
  rw [aw_dcd] at ou ⊢
  simp only at ou ⊢
  obtain ⟨da, dc, rfl, _, ru, _⟩ := ou.rdo aw_ok aw_isB
  refine ⟨da, dc, rfl, ?_⟩
  have b13 : Below W0.heap.size W0 w3 := b12.trans (b3.mono b12.size)
  refine (Print_any (some ⟨w.heap.size, 0, none⟩) 2 awL w3 (by decide) (by rw [aw_len]; decide) (g0.next b13) ((rd0.below b13).mono b13.size)).mono ?_
  rintro e w4 ⟨rfl, b4⟩
  rw [aw_ckA, if_pos rfl, aw_prt]
  refine ⟨rfl, ?_⟩
  have b14 : Below W0.heap.size W0 w4 := b13.trans (b4.mono b13.size)
  refine (Parse_any awT w4 (g0.next b14) (by decide)).mono ?_
  rintro e w5 ⟨p, ps, rfl, op, b5⟩
  rw [aw_prs] at op ⊢
  simp only at op ⊢
  obtain ⟨pa, pc, rfl, _, rp, _⟩ := op.rdo aw_ok aw_isB
  have b15 : Below W0.heap.size W0 w5 := b14.trans (b5.mono b14.size)
  refine ⟨pa, pc, rfl, ?_, ?_⟩
  · have k : ∀ i u, awC[i]? = some u → w5.cell? ⟨w.heap.size, i, none⟩ = some u := fun i u hu => ((b15.cell (p := ⟨w.heap.size, i, none⟩) (by show w.heap.size < _; omega)).trans (kc i)).trans hu
    exact ⟨k 0 _ rfl, k 1 _ rfl, k 2 _ rfl, k 3 _ rfl, k 4 _ rfl, k 5 _ rfl⟩
  have hk := aw_ok awA (by simp [awL])
  refine (Check_any 1 ⟨#[97]⟩ ⟨#[]⟩ 0 10 none 0 0 w5 (g0.next b15) hk.nm hk.ot (by decide) (by decide)).mono ?_
  rintro e w6 ⟨rfl, b6⟩
  rw [show ckO 1 ⟨#[97]⟩ ⟨#[]⟩ 0 10 0 = 0 from aw_ck]
  refine ⟨rfl, ?_⟩
  have b16 : Below W0.heap.size W0 w6 := b15.trans (b6.mono b15.size)
  refine (Program_any (some ⟨w.heap.size, 0, none⟩) 2 awL w6 (by decide) (g0.next b16) ((rd0.below b16).mono b16.size)).mono ?_
  rintro e w7 ⟨rfl, b7⟩
  rw [aw_prg]
  refine ⟨rfl, ?_⟩
  have b17 : Below W0.heap.size W0 w7 := b16.trans (b7.mono b16.size)
  have b37 : Below w3.heap.size w3 w7 := b4.trans ((b5.trans ((b6.trans (b7.mono b6.size)).mono b5.size)).mono b4.size)
  have b57 : Below w5.heap.size w5 w7 := b6.trans (b7.mono b6.size)
  refine (SameOps_same da (some ⟨w.heap.size, 0, none⟩) dc 2 awL w7 (by decide) ((ru.below b37).mono b37.size) ((rd0.below b17).mono b17.size)).mono ?_
  rintro e w8 ⟨rfl, b8⟩
  refine ⟨rfl, ?_⟩
  have b18 : Below W0.heap.size W0 w8 := b17.trans (b8.mono b17.size)
  have b58 : Below w5.heap.size w5 w8 := b57.trans (b8.mono b57.size)
  refine (SameOps_same pa (some ⟨w.heap.size, 0, none⟩) pc 2 awL w8 (by decide) ((rp.below b58).mono b58.size) ((rd0.below b18).mono b18.size)).mono ?_
  rintro e w9 ⟨rfl, b9⟩
  exact ⟨rfl, b0.trans ((b18.trans (b9.mono b18.size)).mono b0.size)⟩

end Go.Proofs.YthkkdmblkalknaaGreatDoor
/-
  awake.
-/
namespace Go.Proofs.YthkkdmblkalknaaGreatDoor
open Go.RowKit

set_option maxRecDepth 100000 in
set_option maxHeartbeats 8000000 in
theorem awake_any (w : World) (hG : GT w) : Calls Tryz.prog 9 #[] w fun e w' => e = .returned (.bool true) ∧ Below w.heap.size w w' := by
  have HK := hid (awK_any w hG)
  unfold AwK at HK
  have HN := hid num_any
  obtain ⟨W0, hW0⟩ : ∃ W0, W0 = w.alloc (.cells #[.int .i64 1, .string ⟨#[97]⟩, .string ⟨#[]⟩, .int .i64 0, .int .i64 10, .slice none 0 0, .int .i64 5, .string ⟨#[97]⟩, .string ⟨#[98]⟩, .int .i64 0, .int .i64 0, .slice none 0 0] 29) := ⟨_, rfl⟩
  unfold awC at HK
  rw [← hW0] at HK
  have HW0 := hid hW0
  clear hW0 hG
  have HCV : Hid (∀ W : World, (convert 23 23 (.slice (some ⟨W.heap.size, 0, none⟩) 12 12)).run Tryz.prog (W.alloc (.cells #[.int .u8 1, .int .u8 1, .int .u8 97, .int .u8 10, .int .u8 0, .int .u8 0, .int .u8 0, .int .u8 5, .int .u8 1, .int .u8 97, .int .u8 1, .int .u8 98] 5)) = .ok (.slice (some ⟨W.heap.size, 0, none⟩) 12 12) (W.alloc (.cells #[.int .u8 1, .int .u8 1, .int .u8 97, .int .u8 10, .int .u8 0, .int .u8 0, .int .u8 0, .int .u8 5, .int .u8 1, .int .u8 97, .int .u8 1, .int .u8 98] 5 (12, 13)))) := fun W => Lib.run_convert_bytes_const W 23 5 awD 12 12 Tryz.underlying23 Tryz.underlying5
  go_enter Tryz.func9, Tryz.ntmps9
  go_wp2_with fail
  rw [← HW0.out]
  refine HK.out.mono ?_
  rintro e w1 ⟨xa, xc, rfl, h1⟩
  have H1 := hid h1
  clear h1 HK
  have hcv := HCV.out w1
  go_wp2_with fail
  clear hcv HCV
  refine H1.out.mono ?_
  rintro e w3 ⟨da, dc, rfl, h1⟩
  have H3 := hid h1
  clear h1 H1
  go_wp2_with fail
  refine H3.out.mono ?_
  rintro e w4 ⟨rfl, h1⟩
  have H4 := hid h1
  clear h1 H3
  go_wp2_with fail
  refine H4.out.mono ?_
  rintro e w5 ⟨pa, pc, rfl, ⟨c0, c1, c2, c3, c4, c5⟩, h1⟩
  have H5 := hid h1
  clear h1 H4
  go_wp2_with fail
  refine H5.out.mono ?_
  rintro e w6 ⟨rfl, h1⟩
  have H6 := hid h1
  clear h1 H5 c0 c1 c2 c3 c4 c5
  go_wp2_with fail
  refine H6.out.mono ?_
  rintro e w7 ⟨rfl, h1⟩
  have H7 := hid h1
  clear h1 H6
  go_wp2_with (go_at_call 13; refine (HN.out _ _).mono ?_; rintro e w7' ⟨rfl, hw7⟩; rw [hw7]; clear hw7)
  refine H7.out.mono ?_
  rintro e w8 ⟨rfl, h1⟩
  have H8 := hid h1
  clear h1 H7
  go_wp2_with fail
  refine H8.out.mono ?_
  rintro e w9 ⟨rfl, h1⟩
  have H9 := hid h1
  clear h1 H8
  go_wp2_with fail
  go_ret
  exact ⟨rfl, H9.out⟩

end Go.Proofs.YthkkdmblkalknaaGreatDoor
/-
  Words of a line: joined and cut.
-/
namespace Go.Proofs.YthkkdmblkalknaaGreatDoor
open Go.RowKit

theorem pre1 (b : UInt8) (l : List UInt8) : List.isPrefixOf [32] (b :: l) = (32 == b) := by simp [List.isPrefixOf]
theorem idx_no : ∀ (l : List UInt8), (∀ b ∈ l, b ≠ 32) → Lib.index l [32] = -1
  | [], _ => rfl
  | b :: l, h => by
    have hb := h b (by simp)
    unfold Lib.index
    rw [pre1, idx_no l (fun c hc => h c (by simp [hc]))]
    simp [Ne.symm hb]
theorem idx_app : ∀ (a r : List UInt8), (∀ b ∈ a, b ≠ 32) → Lib.index (a ++ 32 :: r) [32] = a.length
  | [], r, _ => by
    rw [List.nil_append]
    unfold Lib.index
    rw [pre1]
    simp
  | b :: a, r, h => by
    have hb := h b (by simp)
    have ih := idx_app a r (fun c hc => h c (by simp [hc]))
    rw [List.cons_append]
    unfold Lib.index
    rw [pre1, ih]
    simp [Ne.symm hb]
theorem idx_hit : ∀ (l : List UInt8), Lib.index l [32] ≠ -1 → 0 ≤ Lib.index l [32] ∧ l = l.take (Lib.index l [32]).toNat ++ 32 :: l.drop ((Lib.index l [32]).toNat + 1)
  | [], h => absurd rfl h
  | b :: l, h => by
    unfold Lib.index at h ⊢
    rw [pre1] at h ⊢
    by_cases hb : (32 : UInt8) = b
    · subst hb
      simp
    · have hbb : ((32 : UInt8) == b) = false := by simpa using hb
      rw [hbb] at h ⊢
      simp only [Bool.false_eq_true, if_false] at h ⊢
      by_cases h1 : Lib.index l [32] = -1
      · rw [h1] at h; simp at h
      · have h2 : (Lib.index l [32] == -1) = false := by simpa using h1
        rw [h2]
        simp only [Bool.false_eq_true, if_false]
        obtain ⟨q1, q2⟩ := idx_hit l h1
        refine ⟨by omega, ?_⟩
        have e : (Lib.index l [32] + 1).toNat = (Lib.index l [32]).toNat + 1 := by omega
        rw [e, List.take_succ_cons, List.drop_succ_cons, List.cons_append, ← q2]
theorem join_cons (x : List UInt8) (y : List UInt8) (ys : List (List UInt8)) : Lib.join (x :: y :: ys) [32] = x ++ 32 :: Lib.join (y :: ys) [32] := by
  unfold Lib.join
  simp [List.intercalate, List.intersperse]
theorem join_one (x : List UInt8) : Lib.join [x] [32] = x := by simp [Lib.join, List.intercalate]
theorem splitK_ne (k : Nat) (l : List UInt8) : ∃ y ys, Lib.splitK [32] 0 k l = y :: ys := by
  cases k with
  | zero => exact ⟨_, _, rfl⟩
  | succ k =>
    unfold Lib.splitK
    split
    · exact ⟨_, _, rfl⟩
    · exact ⟨_, _, rfl⟩
theorem join_splitK : ∀ (k : Nat) (l : List UInt8), Lib.join (Lib.splitK [32] 0 k l) [32] = l
  | 0, l => join_one l
  | k + 1, l => by
    unfold Lib.splitK
    split
    · exact join_one l
    · rename_i h
      have h1 : Lib.index l [32] ≠ -1 := fun e => h (by rw [e]; rfl)
      obtain ⟨q1, q2⟩ := idx_hit l h1
      have ih := join_splitK k (l.drop ((Lib.index l [32]).toNat + 1))
      obtain ⟨y, ys, hy⟩ := splitK_ne k (l.drop ((Lib.index l [32]).toNat + 1))
      rw [hy] at ih
      simp only [Nat.add_zero, List.length_cons, List.length_nil, Nat.zero_add]
      rw [hy, join_cons, ih]
      exact q2.symm
theorem splitK_join : ∀ (ts : List (List UInt8)) (k : Nat), ts ≠ [] → ts.length ≤ k + 1 → (∀ t ∈ ts, ∀ b ∈ t, b ≠ 32) → Lib.splitK [32] 0 k (Lib.join ts [32]) = ts
  | [], _, h, _, _ => absurd rfl h
  | [x], k, _, _, h => by
    rw [join_one]
    cases k with
    | zero => rfl
    | succ k =>
      unfold Lib.splitK
      rw [if_pos (by rw [idx_no x (h x (by simp))]; rfl)]
  | x :: y :: ys, k, _, hl, h => by
    cases k with
    | zero => simp at hl
    | succ k =>
      have hx := idx_app x (Lib.join (y :: ys) [32]) (h x (by simp))
      rw [join_cons]
      unfold Lib.splitK
      rw [hx, if_neg (by simp)]
      simp only [Int.toNat_natCast, Nat.add_zero, List.length_cons, List.length_nil, Nat.zero_add]
      rw [List.take_left, show x ++ 32 :: Lib.join (y :: ys) [32] = (x ++ [32]) ++ Lib.join (y :: ys) [32] by simp, show x.length + 1 = (x ++ [32]).length by simp, List.drop_left]
      rw [splitK_join (y :: ys) k (by simp) (by simp at hl ⊢; omega) (fun t ht => h t (by simp at ht ⊢; exact .inr ht))]

end Go.Proofs.YthkkdmblkalknaaGreatDoor
/-
  A line that is taken is printed as it was.
-/
namespace Go.Proofs.YthkkdmblkalknaaGreatDoor
open Go.RowKit

theorem suf_eq {l : List UInt8} (h : Lib.hasSuffix l [10] = true) : l = Lib.trimSuffix l [10] ++ [10] := by
  unfold Lib.trimSuffix
  rw [if_pos h]
  unfold Lib.hasSuffix at h
  rw [List.isSuffixOf_iff_suffix] at h
  obtain ⟨t, rfl⟩ := h
  simp
theorem hv_hex_fin : ∀ n : Fin 256, 0 ≤ hv (UInt8.ofNat n.val) → hxs.getD (hv (UInt8.ofNat n.val)).toNat 0 = UInt8.ofNat n.val := by decide +kernel
theorem hv_hex (c : UInt8) (h : 0 ≤ hv c) : hxs.getD (hv c).toNat 0 = c := by
  have := hv_hex_fin ⟨c.toNat, c.toNat_lt⟩
  simp only [UInt8.ofNat_toNat] at this
  exact this h
theorem hex_unh : ∀ (l : List UInt8) (n : Nat), l.length = 2 * n → (∀ c ∈ l, 0 ≤ hv c) → ((List.range n).map fun j => 16 * hv (l.getD (2 * j) 0) + hv (l.getD (2 * j + 1) 0)).flatMap hex1 = l
  | l, 0, hl, _ => by
    have : l = [] := List.eq_nil_of_length_eq_zero (by omega)
    rw [this]
    rfl
  | l, n + 1, hl, h => by
    match l, hl, h with
    | a :: b :: r, hl, h =>
      have ih := hex_unh r n (by simp at hl; omega) (fun c hc => h c (by simp [hc]))
      rw [List.range_succ_eq_map, List.map_cons, List.flatMap_cons, List.map_map]
      have e : (List.range n).map ((fun j => 16 * hv ((a :: b :: r).getD (2 * j) 0) + hv ((a :: b :: r).getD (2 * j + 1) 0)) ∘ Nat.succ) = (List.range n).map fun j => 16 * hv (r.getD (2 * j) 0) + hv (r.getD (2 * j + 1) 0) := by
        refine List.map_congr_left fun j _ => ?_
        have e1 : 2 * (j + 1) = 2 * j + 1 + 1 := by omega
        simp only [Function.comp_apply, Nat.succ_eq_add_one, e1, List.getD_cons_succ]
      rw [e, ih]
      have ha := h a (by simp)
      have hb := h b (by simp)
      have ba := hv_bd a
      have bb := hv_bd b
      have e0 : hex1 (16 * hv ((a :: b :: r).getD (2 * 0) 0) + hv ((a :: b :: r).getD (2 * 0 + 1) 0)) = [a, b] := by
        show hex1 (16 * hv a + hv b) = [a, b]
        unfold hex1
        have q1 : (16 * hv a + hv b).toNat / 16 = (hv a).toNat := by omega
        have q2 : (16 * hv a + hv b).toNat % 16 = (hv b).toNat := by omega
        rw [q1, q2, hv_hex a ha, hv_hex b hb]
      rw [e0]
      rfl
theorem hex_back {s : ByteArray} (h : okHex s = true) : (⟨(hexL (hexB s)).toArray⟩ : ByteArray) = s := by
  have h' := h
  unfold okHex at h'
  simp only [Bool.and_eq_true, decide_eq_true_eq, List.all_eq_true] at h'
  obtain ⟨h1, h2⟩ := h'
  have hl : s.data.toList.length = 2 * 512 := by rw [Array.length_toList]; exact h1
  have e : hexB s = (List.range 512).map fun j => 16 * hv (s.data.toList.getD (2 * j) 0) + hv (s.data.toList.getD (2 * j + 1) 0) := by
    unfold hexB unh
    rw [if_pos h]
    refine List.map_congr_left fun j hj => ?_
    have := List.mem_range.1 hj
    rw [if_pos (by omega)]
  unfold hexL
  rw [e, hex_unh s.data.toList 512 hl (fun c hc => h2 c hc)]
theorem numP_back {s : ByteArray} (h : (numP s).2 = true) : itoaB (numP s).1 = s := by
  unfold numP at h ⊢
  split at h
  · simp only
    simpa using h
  · cases h
  · cases h

set_option maxRecDepth 100000 in
theorem take_back {m : Nat} (m1 : 1 ≤ m) (m2 : m ≤ 11) {ts : List ByteArray} (hl : ts.length = nw m) {o : PO} (h : takeL ((wordsOf m).zip ts) (kind0 m) = some o) : (wordsOf m).map (shownB o) = ts ∧ o.k = m := by
  rcases nat_kinds m1 m2 with rfl | rfl | rfl | rfl | rfl | rfl | rfl | rfl | rfl | rfl | rfl
  · match ts, hl, h with
    | [a, b, c], _, h =>
      simp [wordsOf, frm, nw, tl, kw, takeL, takeP, kind0] at h
      obtain ⟨rfl, qc, rfl⟩ := h
      refine ⟨?_, rfl⟩
      simp [wordsOf, frm, nw, tl, kw, shownB, numP_back qc]
  · match ts, hl, h with
    | [a, b, c, d], _, h =>
      simp [wordsOf, frm, nw, tl, kw, takeL, takeP, kind0] at h
      obtain ⟨rfl, rfl, rfl⟩ := h
      refine ⟨?_, rfl⟩
      simp [wordsOf, frm, nw, tl, kw, shownB]
  · match ts, hl, h with
    | [a, b, c, d], _, h =>
      simp [wordsOf, frm, nw, tl, kw, takeL, takeP, kind0] at h
      obtain ⟨rfl, rfl, rfl⟩ := h
      refine ⟨?_, rfl⟩
      simp [wordsOf, frm, nw, tl, kw, shownB]
  · match ts, hl, h with
    | [a, b, c], _, h =>
      simp [wordsOf, frm, nw, tl, kw, takeL, takeP, kind0] at h
      obtain ⟨rfl, qc, rfl⟩ := h
      refine ⟨?_, rfl⟩
      simp [wordsOf, frm, nw, tl, kw, shownB, numP_back qc]
  · match ts, hl, h with
    | [a, b, c, d], _, h =>
      simp [wordsOf, frm, nw, tl, kw, takeL, takeP, kind0] at h
      obtain ⟨rfl, rfl, rfl⟩ := h
      refine ⟨?_, rfl⟩
      simp [wordsOf, frm, nw, tl, kw, shownB]
  · match ts, hl, h with
    | [a, b], _, h =>
      simp [wordsOf, frm, nw, tl, kw, takeL, takeP, kind0] at h
      obtain ⟨rfl, rfl⟩ := h
      refine ⟨?_, rfl⟩
      simp [wordsOf, frm, nw, tl, kw, shownB]
  · match ts, hl, h with
    | [a, b, c, d], _, h =>
      simp [wordsOf, frm, nw, tl, kw, takeL, takeP, kind0] at h
      obtain ⟨rfl, rfl, rfl⟩ := h
      refine ⟨?_, rfl⟩
      simp [wordsOf, frm, nw, tl, kw, shownB]
  · match ts, hl, h with
    | [a, b, c, d], _, h =>
      simp [wordsOf, frm, nw, tl, kw, takeL, takeP, kind0] at h
      obtain ⟨rfl, qc, qd, rfl⟩ := h
      refine ⟨?_, rfl⟩
      simp [wordsOf, frm, nw, tl, kw, shownB, numP_back qc, hex_back qd]
  · match ts, hl, h with
    | [a, b, c, d], _, h =>
      simp [wordsOf, frm, nw, tl, kw, takeL, takeP, kind0] at h
      obtain ⟨rfl, qc, qd, rfl⟩ := h
      refine ⟨?_, rfl⟩
      simp [wordsOf, frm, nw, tl, kw, shownB, numP_back qc, numP_back qd]
  · match ts, hl, h with
    | [a, b, c, d], _, h =>
      simp [wordsOf, frm, nw, tl, kw, takeL, takeP, kind0] at h
      obtain ⟨rfl, qc, qd, rfl⟩ := h
      refine ⟨?_, rfl⟩
      simp [wordsOf, frm, nw, tl, kw, shownB, numP_back qc, numP_back qd]
  · match ts, hl, h with
    | [a, b], _, h =>
      simp [wordsOf, frm, nw, tl, kw, takeL, takeP, kind0] at h
      obtain ⟨rfl, qb, rfl⟩ := h
      refine ⟨?_, rfl⟩
      simp [wordsOf, frm, nw, tl, kw, shownB, numP_back qb]

end Go.Proofs.YthkkdmblkalknaaGreatDoor
/-
  What is parsed is printed as it was.
-/
namespace Go.Proofs.YthkkdmblkalknaaGreatDoor
open Go.RowKit

/-- a line that is taken is printed as it was -/
theorem line_back {s : ByteArray} (h : (lineP s).2 = true) : lineL (lineP s).1 = s.data.toList ∧ (lineP s).1.ck = 0 := by
  unfold lineP at h ⊢
  by_cases h1 : whole s = false ∨ kd ((pieces s).getD 0 cE) = 0
  · rw [if_pos h1] at h; cases h
  rw [if_neg h1] at h ⊢
  by_cases h2 : (pieces s).length ≠ nw (kd ((pieces s).getD 0 cE))
  · rw [if_pos h2] at h; cases h
  rw [if_neg h2] at h ⊢
  have hw : whole s = true := by cases hq : whole s with | true => rfl | false => exact absurd (Or.inl hq) h1
  obtain ⟨m, hm⟩ : ∃ m, kd ((pieces s).getD 0 cE) = m := ⟨_, rfl⟩
  have m2 : m ≤ 11 := by rw [← hm]; exact (kd_spec _).1
  have m1 : 1 ≤ m := by have : m ≠ 0 := fun e => h1 (.inr (hm.trans e)); omega
  rw [hm] at h h2 ⊢
  cases ht : takeL ((wordsOf m).zip (pieces s)) (kind0 m) with
  | none => rw [ht] at h; cases h
  | some o =>
    rw [ht] at h
    have hck : o.ck = 0 := by simpa [finL] using h
    obtain ⟨e1, e2⟩ := take_back m1 m2 (by simpa using h2) ht
    refine ⟨?_, hck⟩
    show lineL o = _
    rw [lineL_eq, e2, Int.toNat_natCast]
    unfold txts
    rw [e1]
    unfold pieces
    rw [Lib.splitB_data]
    show Lib.join (Lib.splitK [32] 0 _ (bodyB s).data.toList) [32] ++ [10] = _
    rw [join_splitK]
    show (Lib.trimSuffix s.data.toList [10]).toArray.toList ++ [10] = _
    rw [List.toList_toArray]
    exact (suf_eq hw).symm
theorem prsL_zero : ∀ (ls : List ByteArray) (n : Nat) (acc : List PO), (prsL n ls acc).2.2 = 0 → ∀ l ∈ ls, (lineP l).2 = true
  | [], _, _, _, l, hl => by cases hl
  | x :: ls, n, acc, h, l, hl => by
    unfold prsL at h
    by_cases hx : (lineP x).2 = true
    · rw [if_pos hx] at h
      rcases List.mem_cons.1 hl with rfl | hl
      · exact hx
      · exact prsL_zero ls _ _ h l hl
    · rw [if_neg hx] at h; cases h
theorem flat_congr {α β : Type} {f g : α → List β} : ∀ (ls : List α), (∀ l ∈ ls, f l = g l) → ls.flatMap f = ls.flatMap g
  | [], _ => rfl
  | x :: ls, h => by rw [List.flatMap_cons, List.flatMap_cons, h x (by simp), flat_congr ls (fun l hl => h l (by simp [hl]))]
theorem cut_app (s : ByteArray) : (cutL s).1.data.toList ++ (cutL s).2.data.toList = s.data.toList := by
  unfold cutL
  split
  · show s.data.toList ++ [] = _
    simp
  · show (s.extract _ _).data.toList ++ (s.extract _ _).data.toList = _
    rw [Lib.extract_from_zero, Lib.extract_to_end, List.take_append_drop]
theorem lines_flat : ∀ (n : Nat) (s : ByteArray), s.size ≤ n → (linesB s).flatMap (·.data.toList) = s.data.toList
  | 0, s, h => by
    rw [linesB_nil (by omega)]
    have : s.data.toList.length = 0 := by rw [Array.length_toList]; exact (by have : s.data.size = s.size := rfl; omega)
    exact (List.eq_nil_of_length_eq_zero this).symm
  | n + 1, s, h => by
    by_cases h0 : s.size = 0
    · exact lines_flat 0 s (by omega)
    · have := cut_lt h0
      rw [linesB_cons h0, List.flatMap_cons, lines_flat n _ (by omega)]
      exact cut_app s
theorem prt_prs {s : ByteArray} (h : (prs s).2.2 = 0) : prtL (prs s).1 = s.data.toList ∧ ∀ o ∈ (prs s).1, o.ck = 0 := by
  have hall := prsL_zero (linesB s) 0 [] h
  have e : (prs s).1 = (linesB s).map (fun l => (lineP l).1) := by unfold prs; rw [prsL_ok _ 0 [] hall]; rfl
  rw [e]
  refine ⟨?_, fun o ho => ?_⟩
  · unfold prtL
    rw [List.flatMap_map, ← lines_flat s.size s (Nat.le_refl _)]
    exact flat_congr _ fun l hl => (line_back (hall l hl)).1
  · obtain ⟨l, hl, rfl⟩ := List.mem_map.1 ho
    exact (line_back (hall l hl)).2

end Go.Proofs.YthkkdmblkalknaaGreatDoor
