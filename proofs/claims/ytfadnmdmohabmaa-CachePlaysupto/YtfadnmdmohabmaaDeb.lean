/-
  The desk whole: reads, of a Read.
-/
import Derived.Test.YtfadnmdmohabmaaDea
import Derived.Deep.RegionHeld3
namespace Go.Proofs.Ytfadnmdmohabmaa
open Go.RowKit

theorem Dsi.owned {B : Nat} {τ : Nat → Nat} {w w' : World} {x p r nb m nK nK' : Nat} {v v' : Vs} {i : Nat} {cI cJ xI xJ : Value} {D : Ds} {sI sJ : Option CS} {al : Option Addr} {t : Nat} (h : Dsi B τ w x p r nb m nK v i cI cJ xI xJ D sI sJ) (ht : t = 3 ∨ t = 4) (h9 : ∀ y, al = some ⟨y, 0, none⟩ → τ y = 9 ∧ B ≤ y) (hD : Dt (tgN τ w.heap.size al t) w' x v' nK') (hb : But (fun y => τ y = t ∨ y = x ∨ al = some ⟨y, 0, none⟩) w w')
    (e1 : v'.d = v.d) (e2 : v'.c0 = v.c0) (e3 : v'.c1 = v.c1) (e4 : v'.r = v.r) (e5 : v'.x0 = v.x0) (e6 : v'.x1 = v.x1) (b1 : v'.bcnt ≤ m) (b2 : v'.btot ≤ 512 * m) (b3 : nK' ≤ 15 * m) (l1 : v'.lcnt ≤ 2 * m) (l2 : v'.ltot ≤ 8192 * m) (n0 : 0 ≤ v'.n) (n1 : v'.n ≤ m) : Dsi B (tgN τ w.heap.size al t) w' x p r nb m nK' v' i cI cJ xI xJ D sI sJ := by
  have hs := hb.size
  have e : ∀ y, y < w.heap.size → al ≠ some ⟨y, 0, none⟩ → tgN τ w.heap.size al t y = τ y := fun y hy q => tgN_lo hy q
  have ne : ∀ y, τ y ≠ 9 → al ≠ some ⟨y, 0, none⟩ := fun y q e => q (h9 y e).1
  have nx : ∀ y, τ y ≠ 0 → y ≠ x := fun y q e => q (by rw [e]; exact h.dt.tx)
  refine ⟨hD, (h.ps.mono (P' := fun y => tgN τ w.heap.size al t y = 1 ∧ τ y = 1 ∧ y < w.heap.size) (fun k hk q => ⟨(e k hk (ne k (by omega))).trans q, q, hk⟩)).but hb (fun k hk q q' => ?_) |>.mono (fun k hk q => q.1), (h.rs.mono (R' := fun y => tgN τ w.heap.size al t y = 2 ∧ τ y = 2 ∧ y < w.heap.size) (fun k hk q => ⟨(e k hk (ne k (by omega))).trans q, q, hk⟩)).but hb (fun k hk q q' => ?_) |>.mono (fun k hk q => q.1), by rw [e1]; exact h.ed, by rw [e4]; exact h.er, by rw [e2, e3, e5, e6]; exact h.sel, fun y hy => (e y (Nat.lt_of_lt_of_le hy h.hB) (fun q => by have := (h9 y q).2; omega)).trans (h.low y hy), by have := h.hB; omega, h.okI, h.okJ, h.lI, h.lJ, h.hp, b1, b2, b3, l1, l2, n0, n1⟩
  · rcases q' with q' | q' | q'
    · omega
    · exact nx k (by omega) q'
    · exact ne k (by omega) q'
  · rcases q' with q' | q' | q'
    · omega
    · exact nx k (by omega) q'
    · exact ne k (by omega) q'
theorem OkC.read {m nb : Nat} {s : Option CS} (h : OkC m nb s) (D : Ds) (k : Int) : OkC (m + 1) nb (rdS s D nb k) := by
  cases s with
  | none => exact h
  | some s =>
    obtain ⟨o1, o2, o3, o4, o5, o6, o7, o8⟩ := h
    have hh : ∀ l cd x, 0 ≤ hitN l cd x ∧ hitN l cd x ≤ 1 := fun l cd x => by unfold hitN; split <;> omega
    have hm : ∀ l cd x, 0 ≤ missN l cd x ∧ missN l cd x ≤ 1 := fun l cd x => by unfold missN; split <;> omega
    have a1 := hh (heldU s.room s.us) (readS (heldU s.room s.us) D.img D.puts D.off nb k).1 k
    have a2 := hm (heldU s.room s.us) (readS (heldU s.room s.us) D.img D.puts D.off nb k).1 k
    refine ⟨o1, o2, ?_, ?_, ?_, ?_, ?_, ?_⟩
    · dsimp only
      split
      · simp; omega
      · omega
    · dsimp only; omega
    · dsimp only; omega
    · dsimp only; omega
    · dsimp only; omega
    · dsimp only
      split
      · rename_i hz
        intro q hq
        rcases List.mem_append.1 hq with hq | hq
        · exact o8 q hq
        · rw [List.mem_singleton.1 hq]
          show 0 ≤ k ∧ k < (nb : Int)
          unfold readS at hz
          split at hz
          · simp at hz
          · split at hz
            · rename_i z hz2
              obtain ⟨j, h1, _⟩ := heldZ_some hz2
              exact o8 _ (mem_heldU (List.mem_of_getElem? h1))
            · unfold readR at hz
              split at hz
              · simp at hz
              · split at hz
                · simp at hz
                · omega
      · exact o8
/-- what is read is a whole block, or nothing -/
theorem rdA_len {s : Option CS} {D : Ds} {nb : Nat} (h : OkL s) (hd : ∀ y, y < nb → (seenZ D.img D.puts y).length = 512) (k : Int) : ((rdA s D nb k).1 = 0 → (rdA s D nb k).2.length = 512) ∧ (rdA s D nb k).2.length ≤ 512 := by
  cases s with
  | none => exact ⟨fun e => by simp [rdA] at e, by simp [rdA]⟩
  | some s =>
    unfold rdA readS
    dsimp only
    split
    · exact ⟨fun e => by simp at e, by simp⟩
    · split
      · rename_i z hz2
        obtain ⟨j, h1, _⟩ := heldZ_some hz2
        have := h _ (mem_heldU (List.mem_of_getElem? h1))
        dsimp only at this ⊢
        exact ⟨fun _ => this, by omega⟩
      · unfold readR
        split
        · exact ⟨fun e => by simp at e, by simp⟩
        · split
          · exact ⟨fun e => by simp at e, by simp⟩
          · have := hd k.toNat (by omega)
            exact ⟨fun _ => this, by dsimp only; omega⟩
theorem OkL.read {s : Option CS} (h : OkL s) {D : Ds} {nb : Nat} (hd : ∀ y, y < nb → (seenZ D.img D.puts y).length = 512) (k : Int) : OkL (rdS s D nb k) := by
  cases s with
  | none => exact h
  | some s =>
    have hl := (rdA_len (s := some s) h hd k).1
    unfold rdS OkL
    dsimp only [Option.map]
    intro q hq
    split at hq
    · rename_i hz
      rcases List.mem_append.1 hq with hq | hq
      · exact h q hq
      · rw [List.mem_singleton.1 hq]
        exact hl hz
    · exact h q hq
theorem Ps.seen {P : Nat → Prop} {w : World} {p : Nat} {c0 c1 : Value} {D : Ds} {nb : Nat} {s0 s1 : Option CS} (h : Ps P w p c0 c1 D nb s0 s1) : ∀ y, y < nb → (seenZ D.img D.puts y).length = 512 := fun y hy => by
  obtain ⟨X, Y0, Y1, hX, h0, h1, hd, hc0, hc1⟩ := h
  exact (hd.seen hy).1
theorem OkC.up {m m' nb : Nat} {s : Option CS} (h : OkC m nb s) (hm : m ≤ m') : OkC m' nb s := by
  cases s with
  | none => exact h
  | some s =>
    obtain ⟨o1, o2, o3, o4, o5, o6, o7, o8⟩ := h
    exact ⟨o1, o2, by omega, o4, by omega, o6, by omega, o8⟩

set_option maxRecDepth 100000 in
set_option maxHeartbeats 4000000 in
theorem reads_read {B : Nat} {w : World} {x m : Nat} (h : Dsk B w x m) (hm : m ≤ 1048576) (wh at_ fi : Int) (hwf : (Lit.int .i64 at_).wf = true) (ra : Value) :
    Calls Try.prog 22 #[.pointer (some ⟨x, 0, none⟩), cactV wh 1 at_ fi ra] w fun e w' => e = .returned (.bool true) ∧ Dsk B w' x (m + 1) ∧ Below B w w' := by
  unfold cactV
  obtain ⟨i, hi, ei⟩ := and1_nat wh
  obtain ⟨τ0, p, r, nb, nK, v, cI, cJ, xI, xJ, D, sI, sJ, h0⟩ := h.at hi
  have hB0 := h0.hB
  obtain ⟨W, hW⟩ : ∃ W, W = w.alloc (.cells #[.int .i64 wh, .int .i64 1, .int .i64 at_, .int .i64 fi, ra] 36) := ⟨_, rfl⟩
  have bW : Below w.heap.size w W := by rw [hW]; exact (Below.refl _ _).alloc (Nat.le_refl _) _
  have h := h0.fresh bW
  have hsW : W.heap.size = w.heap.size + 1 := by rw [hW]; simp
  have ca : W.cell? ⟨w.heap.size, 2, none⟩ = some (.int .i64 at_) := by rw [hW]; simp
  have t9 : tgN τ0 w.heap.size none 9 w.heap.size = 9 := tgN_hi (Nat.le_refl _)
  generalize tgN τ0 w.heap.size none 9 = τ at *
  clear h0
  obtain ⟨cC, cX⟩ := h.cC
  have hxl := h.dt.tbl.lt
  have tx := h.dt.tx
  have hseen := h.ps.seen
  have HRd := hid ((h.ps.below (w' := W.drew) (Below.refl _ _).drew).read (by omega) h.okI h.hp hwf)
  have hlen := rdA_len h.lI hseen at_
  have H := hid h
  have BW := hid bW
  clear h bW hseen
  have hi2 : (i : Int) < 2 := by omega
  go_enter Try.func22, Try.ntmps22
  go_wp2_with fail
  simp only [← hW]
  clear hW ei
  go_region_held3 (fun w' => w'.cell? ⟨x, 1 + i, none⟩ = some cI ∧ w'.cell? ⟨w.heap.size, 2, none⟩ = some (.int .i64 at_)) (first | (exact ⟨by assumption, by assumption⟩) | go_keep)
    ((go_at_call 12; refine Calls.mono HRd.out ?_; rintro e w1 ⟨al, cp, rfl, hal, hzB, ps1, b1⟩
      have b1' : But (fun y => τ y = 1) W w1 := ⟨b1.os, b1.tape, b1.output, b1.size, b1.block⟩
      have k1 : ∀ y, y < W.heap.size → τ y ≠ 1 → ∀ t, w1.cell? ⟨y, t, none⟩ = W.cell? ⟨y, t, none⟩ := fun y hy q t => World.cell?_of_block (a := ⟨y, t, none⟩) (b1'.block y hy q)
      have d1 := (k1 x hxl (by omega) (1 + i)).trans cC
      have d2 := (k1 w.heap.size (by omega) (by omega) 2).trans ca
      have d4 := (k1 x hxl (by omega) (4 + i)).trans cX
      have HP1 := hid (And.intro hal (And.intro hzB (And.intro ps1 b1')))
      clear hal hzB ps1 b1 b1' k1))
  clear HRd
  have HRx := hid ((H.out.rs1 HP1.out.2.2.2 (w2 := w1.drew) (Below.refl _ _).drew).read (by omega) H.out.okI H.out.hp at_)
  clear cC cX ca
  go_wp2_with fail
  go_region_held3 (fun w' => w'.cell? ⟨x, 4 + i, none⟩ = some xI ∧ w'.cell? ⟨w.heap.size, 2, none⟩ = some (.int .i64 at_)) (first | (exact ⟨by assumption, by assumption⟩) | go_keep)
    ((go_at_call 39; refine Calls.mono HRx.out ?_; rintro e w2 ⟨rfl, rs1, b2⟩
      have k2 : ∀ y, y < w1.heap.size → ¬ (τ y = 2 ∧ y < W.heap.size) → ∀ t, w2.cell? ⟨y, t, none⟩ = w1.cell? ⟨y, t, none⟩ := fun y hy q t => World.cell?_of_block (a := ⟨y, t, none⟩) (b2.block y hy q)
      have s1 := HP1.out.2.2.2.size
      have f2 := (k2 w.heap.size (by omega) (fun q => by omega) 2).trans d2
      have f4 := (k2 x (by omega) (fun q => by omega) (4 + i)).trans d4
      have HP2 := hid (And.intro rs1 b2)
      clear rs1 b2 k2))
  clear HRx d1 d2 d4 f2 f4
  have hal' : ∀ y, al = some ⟨y, 0, none⟩ → W.heap.size ≤ y ∧ y < w1.heap.size := fun y e => by
    rcases HP1.out.1 with ⟨q, _⟩ | ⟨g, q, q2, q3⟩
    · rw [q] at e; cases e
    · rw [q] at e; cases e; exact ⟨q2, q3.lt⟩
  obtain ⟨hD2, b02⟩ := H.out.both (m' := m + 1) HP1.out.2.2.1 HP1.out.2.2.2 hal' (w2 := w1.drew) (Below.refl _ _).drew HP2.out.1 HP2.out.2 (by omega) (H.out.okI.read D at_) (H.out.okJ.up (by omega)) (H.out.lI.read H.out.ps.seen at_) H.out.lJ (by have := H.out.hp; omega)
  have HD2 := hid hD2
  have HB02 := hid b02
  have hl2 : (al = none ∧ (rdA sI D nb at_).2 = [] ∧ cp = 0) ∨ ∃ g, al = some ⟨g, 0, none⟩ ∧ Own w2 g (rdA sI D nb at_).2.length cp (rdA sI D nb at_).2 ∧ tgB τ W.heap.size w1.drew.heap.size al g = 9 := by
    rcases HP1.out.1 with ⟨q1, q2, q3⟩ | ⟨g, q, q2, q3⟩
    · exact .inl ⟨q1, q3, q2⟩
    · have q2 : W.heap.size ≤ g := q2
      refine .inr ⟨g, q, q3.keep (HP2.out.2.block g q3.lt (fun e => by omega)), ?_⟩
      unfold tgB
      rw [if_neg (by omega), if_pos q]
  have hrd : Rd w2.heap.size w2 al (rdA sI D nb at_).2.length (rdA sI D nb at_).2 := by
    rcases hl2 with ⟨q1, q2, _⟩ | ⟨g, q, q2, _⟩
    · exact ⟨rfl, HP1.out.2.1, .inl (by rw [q2]; rfl)⟩
    · rw [q]; exact q2.rd HP1.out.2.1
  have v4 : (convert 34 9 (.slice al (rdA sI D nb at_).2.length cp)).run Try.prog w2 = .ok (.string (strOfNums (rdA sI D nb at_).2)) w2 := conv_str hrd cp
  have hsn := hD2.n1
  have hb9 : ∀ y, al = some ⟨y, 0, none⟩ → tgB τ W.heap.size w1.drew.heap.size al y = 9 ∧ B ≤ y := fun y e => by
    have h1 := hal' y e
    have h2 := H.out.hB
    refine ⟨?_, by omega⟩
    unfold tgB
    rw [if_neg (by omega), if_pos e]
  have o1 := H.out.b1
  have o2 := H.out.b2
  have o3 := H.out.b3
  have o4 := H.out.n0
  have o5 := H.out.n1
  have o6 := H.out.l1
  have o7 := H.out.l2
  have HO := hid (own_any hD2.dt al cp (rdA sI D nb at_).2 (by omega) (by omega) (by omega) (by omega) o4 (by omega) HP1.out.2.1 hl2)
  have HL2 := hid hl2
  have HB9 := hid hb9
  clear hD2 b02 hl2 hrd hb9 hal' HP1 HP2
  go_wp2_with fail
  refine Calls.mono (Num_any _ w2) ?_
  rintro e w2' ⟨rfl, rfl⟩
  go_wp2_with fail
  refine Calls.mono HO.out ?_
  rintro e w3 ⟨rfl, nK', bf, bh, bm, bk, bw, hn', hDt, hb3⟩
  have FIN : Hid (Dsk B w3 x (m + 1) ∧ Below B w w3) := by
    show _ ∧ _
    have hd := HD2.out
    have hq := hlen.2
    refine ⟨(hd.owned (t := 3) (.inl rfl) HB9.out hDt hb3 rfl rfl rfl rfl rfl rfl (by show v.bcnt + 1 ≤ _; omega) (by show v.btot + _ ≤ _; omega) (by omega) (by show v.lcnt ≤ _; omega) (by show v.ltot ≤ _; omega) (by show 0 ≤ v.n + 1; omega) (by show v.n + 1 ≤ _; omega)).dsk, ?_⟩
    have hW := H.out.low
    refine (BW.out.mono hB0).trans (((HB02.out.below H.out.hB (fun y hy q => by have := hW y hy; omega))).trans (hb3.below hd.hB (fun y hy q => ?_)))
    rcases q with q | q | q
    · have := hd.low y hy; omega
    · have := hd.low y hy; rw [q, hd.dt.tx] at this; omega
    · have := (HB9.out y q).2; omega
  clear hDt hb3 HO HL2 HD2 HB02
  go_wp2
  go_ret
  exact ⟨rfl, FIN.out⟩

end Go.Proofs.Ytfadnmdmohabmaa

/-
  What an act writes; the desk behind a Write.
-/
namespace Go.Proofs.Ytfadnmdmohabmaa
open Go.RowKit

/-- what an act writes -/
def dataZ (fi : Int) (zs : List Int) : List Int := if zs = [] then blkZ fi else zs
/-- bytes that lie below B, or from S on -/
def RdS (B S : Nat) (w : World) (a : Option Addr) (n : Nat) (zs : List Int) : Prop :=
  zs.length = n ∧ Pl.isB zs ∧ (n = 0 ∨ ∃ b off, a = some ⟨b, off, none⟩ ∧ b < w.heap.size ∧ (b < B ∨ S ≤ b) ∧ ∀ t, t < n → w.cell? ⟨b, off + t, none⟩ = some (.int .u8 (zs.getD t 0)))
theorem RdS.rdn {B S : Nat} {w : World} {a : Option Addr} {n : Nat} {zs : List Int} (h : RdS B S w a n zs) {X : Nat → Prop} (hX : ∀ k, X k → B ≤ k ∧ k < S) : RdN X w a n zs := by
  obtain ⟨h1, h2, h3⟩ := h
  refine ⟨h1, h2, ?_⟩
  rcases h3 with h3 | ⟨b, off, rfl, hlt, hbs, hc⟩
  · exact .inl h3
  · exact .inr ⟨b, off, rfl, hlt, fun q => by have := hX b q; omega, hc⟩
set_option maxRecDepth 100000 in
theorem data_any {B : Nat} {w : World} (hB : B ≤ w.heap.size) (wh kd at_ fi : Int) {a : Option Addr} {n : Nat} (c : Nat) {zs : List Int} (hR : Rd B w a n zs) :
    Calls Try.prog 42 #[cactV wh kd at_ fi (.slice a n c)] w fun e w' => ∃ al cp, e = .returned (.slice al (dataZ fi zs).length cp) ∧ RdS B w.heap.size w' al (dataZ fi zs).length (dataZ fi zs) ∧ Below w.heap.size w w' := by
  unfold cactV
  obtain ⟨W, hW⟩ : ∃ W, W = w.alloc (.cells #[.int .i64 wh, .int .i64 kd, .int .i64 at_, .int .i64 fi, .slice a n c] 36) := ⟨_, rfl⟩
  have bW : Below w.heap.size w W := by rw [hW]; exact (Below.refl _ _).alloc (Nat.le_refl _) _
  by_cases h0 : n = 0
  · have hz : zs = [] := List.length_eq_zero_iff.1 (by rw [hR.1]; exact h0)
    have hd : dataZ fi zs = blkZ fi := by unfold dataZ; rw [if_pos hz]
    rw [hd, length_blkZ]
    have HB := hid (Block_any fi W)
    subst h0
    clear hR
    go_enter Try.func42, Try.ntmps42
    go_wp2_with fail
    rw [← hW]
    refine Calls.mono HB.out ?_
    rintro q w1 ⟨g, rfl, g1, k1, b1⟩
    have FIN : Hid (RdS B w.heap.size w1 (some ⟨g, 0, none⟩) 512 (blkZ fi) ∧ Below w.heap.size w w1) :=
      ⟨⟨length_blkZ fi, isB_blkZ fi, .inr ⟨g, 0, rfl, k1.lt, .inr (Nat.le_trans bW.size g1), fun t ht => by rw [Nat.zero_add]; exact k1.cell t (by rw [length_blkZ]; exact ht)⟩⟩, bW.trans (b1.mono bW.size)⟩
    clear k1 b1 HB
    go_wp2
    go_ret
    exact ⟨_, _, rfl, FIN.out.1, FIN.out.2⟩
  · have hz : ¬ zs = [] := fun e => h0 (by rw [← hR.1, e]; rfl)
    have hd : dataZ fi zs = zs := by unfold dataZ; rw [if_neg hz]
    have hl := hR.1
    rw [hd, hl]
    have FIN : Hid (RdS B w.heap.size W a n zs ∧ Below w.heap.size w W) := by
      obtain ⟨r1, r2, r3⟩ := hR.below (bW.mono hB)
      refine ⟨⟨r1, r2, ?_⟩, bW⟩
      rcases r3 with r3 | ⟨b, off, rfl, hlt, hc⟩
      · exact .inl r3
      · exact .inr ⟨b, off, rfl, by have := bW.size; omega, .inl hlt, hc⟩
    have hn0 : (0 : Int) < (n : Int) := by omega
    clear hR hd hz hl bW
    go_enter Try.func42, Try.ntmps42
    go_wp2
    go_ret
    rw [← hW]
    exact ⟨_, _, rfl, FIN.out.1, FIN.out.2⟩

/-- the desk's own block and lists have turned, all else is as it was -/
theorem Dsi.redt {B : Nat} {τ τ' : Nat → Nat} {U : Nat → Prop} {w w' : World} {x p r nb m nK nK' : Nat} {v v' : Vs} {i : Nat} {cI cJ xI xJ : Value} {D : Ds} {sI sJ : Option CS} (h : Dsi B τ w x p r nb m nK v i cI cJ xI xJ D sI sJ) (hD : Dt τ' w' x v' nK') (hb : But U w w') (hU : ∀ y, y < w.heap.size → U y → τ y ≠ 1 ∧ τ y ≠ 2) (hτ : ∀ y, y < w.heap.size → τ y = 1 ∨ τ y = 2 ∨ τ y = 9 → τ' y = τ y)
    (e1 : v'.d = v.d) (e2 : v'.c0 = v.c0) (e3 : v'.c1 = v.c1) (e4 : v'.r = v.r) (e5 : v'.x0 = v.x0) (e6 : v'.x1 = v.x1) (b1 : v'.bcnt ≤ m) (b2 : v'.btot ≤ 512 * m) (b3 : nK' ≤ 15 * m) (l1 : v'.lcnt ≤ 2 * m) (l2 : v'.ltot ≤ 8192 * m) (n0 : 0 ≤ v'.n) (n1 : v'.n ≤ m) : Dsi B τ' w' x p r nb m nK' v' i cI cJ xI xJ D sI sJ := by
  have hs := hb.size
  refine ⟨hD, (h.ps.mono (P' := fun y => τ' y = 1 ∧ τ y = 1) (fun k hk q => ⟨(hτ k hk (.inl q)).trans q, q⟩)).but hb (fun k hk q q' => (hU k hk q').1 q.2) |>.mono (fun k hk q => q.1), (h.rs.mono (R' := fun y => τ' y = 2 ∧ τ y = 2) (fun k hk q => ⟨(hτ k hk (.inr (.inl q))).trans q, q⟩)).but hb (fun k hk q q' => (hU k hk q').2 q.2) |>.mono (fun k hk q => q.1), by rw [e1]; exact h.ed, by rw [e4]; exact h.er, by rw [e2, e3, e5, e6]; exact h.sel, fun y hy => ?_, by have := h.hB; omega, h.okI, h.okJ, h.lI, h.lJ, h.hp, b1, b2, b3, l1, l2, n0, n1⟩
  have := h.low y hy
  rw [hτ y (Nat.lt_of_lt_of_le hy h.hB) (.inr (.inr this))]
  exact this
theorem writeC_ok {off : Bool} {fu : Int} {nb n : Nat} {k : Int} (hz : writeC off fu nb k n = 0) : 0 ≤ k ∧ k < (nb : Int) ∧ n = 512 := by
  unfold writeC at hz
  split at hz
  · omega
  · split at hz
    · omega
    · split at hz
      · omega
      · exact ⟨by omega, by omega, by omega⟩
theorem OkC.write {m nb : Nat} {s : Option CS} (h : OkC m nb s) (D : Ds) (k : Int) (n : Nat) (zs : List Int) : OkC (m + 1) nb (wrS s D nb k n zs) := by
  cases s with
  | none => exact h
  | some s =>
    obtain ⟨o1, o2, o3, o4, o5, o6, o7, o8⟩ := h
    refine ⟨o1, o2, ?_, o4, by dsimp only; omega, o6, by dsimp only; omega, ?_⟩
    · dsimp only
      split
      · simp; omega
      · omega
    · dsimp only
      split
      · rename_i hz
        have := writeC_ok hz
        intro q hq
        rcases List.mem_append.1 hq with hq | hq
        · exact o8 q hq
        · rw [List.mem_singleton.1 hq]
          exact ⟨this.1, this.2.1⟩
      · exact o8
theorem OkL.write {s : Option CS} (h : OkL s) (D : Ds) (nb : Nat) (k : Int) (n : Nat) {zs : List Int} (hz : zs.length = n) : OkL (wrS s D nb k n zs) := by
  cases s with
  | none => exact h
  | some s =>
    unfold wrS OkL
    dsimp only [Option.map]
    intro q hq
    split at hq
    · rename_i hw
      rcases List.mem_append.1 hq with hq | hq
      · exact h q hq
      · rw [List.mem_singleton.1 hq]
        show zs.length = 512
        rw [hz]
        exact (writeC_ok hw).2.2
    · exact h q hq
theorem wrD_len {m : Nat} (s : Option CS) (D : Ds) (nb : Nat) (k : Int) (n : Nat) (zs : List Int) (h : D.puts.length ≤ m) : (wrD s D nb k n zs).puts.length ≤ m + 1 := by
  cases s with
  | none => show D.puts.length ≤ _; omega
  | some s =>
    unfold wrD
    dsimp only
    split
    · simp; omega
    · omega
theorem RdS.low' {B S : Nat} {w : World} {a : Option Addr} {n : Nat} {zs : List Int} (h : RdS B S w a n zs) {X : Nat → Prop} (hX : ∀ k, k < w.heap.size → k < B ∨ S ≤ k → ¬ X k) : RdN X w a n zs := by
  obtain ⟨h1, h2, h3⟩ := h
  refine ⟨h1, h2, ?_⟩
  rcases h3 with h3 | ⟨b, off, rfl, hlt, hbs, hc⟩
  · exact .inl h3
  · exact .inr ⟨b, off, rfl, hlt, hX b hlt hbs, hc⟩

end Go.Proofs.Ytfadnmdmohabmaa
