/-
  CacheBounds: the law.
-/
import Derived.Test.YtokgfnfgpjkpjaaCd2
import Derived.Deep.DeepCutAuto
namespace Go.Proofs.Ytokgfnfgpjkpjaa
open Go.RowKit

/-- the last block that was used is the last that is held -/
def LastOk (l : List (Int × List Int)) (last : Int) : Prop := (last = -1 ∧ l = []) ∨ (0 ≤ last ∧ ∃ A z, l = A ++ [(last, z)])
def BState (B : Nat) (w0 w : World) (c p room nb k : Nat) (reads last : Int) : Prop := ∃ hi mi l fu off, Solo B w0 w c p room nb k hi mi l fu off ∧ 0 ≤ hi ∧ 0 ≤ mi ∧ reads = hi + mi ∧ hi + mi ≤ k ∧ LastOk l last

theorem rdi_up {w w' : World} {a : Option Addr} {n : Nat} {zs : List Int} (h : RdI w.heap.size w a n zs) (b : Below w.heap.size w w') : RdI w'.heap.size w' a n zs := by
  obtain ⟨h1, h2⟩ := h.below b
  refine ⟨h1, h2.imp id (fun ⟨x, o, e, l, q⟩ => ⟨x, o, e, Nat.lt_of_lt_of_le l b.size, q⟩)⟩
theorem keys_all {B : Nat} {w0 w : World} {c p room nb m : Nat} {hi mi : Int} {l : List (Int × List Int)} {fu : Int} {off : Bool} (h : Solo B w0 w c p room nb m hi mi l fu off) : unlikeN (l.map (·.1)) (-1) l.length = l.length := by
  obtain ⟨h1, _, _, h4, _⟩ := h.facts
  have := unlike_all (one := -1) h1 (fun q => by
    obtain ⟨x, hx, e⟩ := List.mem_map.1 q
    have := (h4 x hx).1
    omega)
  rw [List.length_map] at this
  exact this
set_option maxRecDepth 100000 in
set_option maxHeartbeats 40000000 in
theorem bounds_law {w : World} (bl ro : Int) {a : Option Addr} {n cp : Nat} {L : List CAct} (hS : CScr w.heap.size w a n L) (hn : n ≤ 1048576) :
    Calls Try.prog 4 #[.int .i64 bl, .int .i64 ro, .slice a n cp] w fun e w' => e = .returned (.bool true) ∧ Below w.heap.size w w' := by
  have H1 : Hid (∀ w, Calls Try.prog 6 #[.int .i64 bl, .int .i64 1, .int .i64 64] w fun q w' => q = .returned (.int .i64 (inN 1 64 bl : Int)) ∧ w' = w) := fun w => within_any bl 1 64 (by omega) (by omega) w
  have H2 : Hid (∀ w, Calls Try.prog 6 #[.int .i64 ro, .int .i64 1, .int .i64 4096] w fun q w' => q = .returned (.int .i64 (inN 1 4096 ro : Int)) ∧ w' = w) := fun w => within_any ro 1 4096 (by omega) (by omega) w
  have lo := inN_lo 1 64 bl
  have hi := inN_hi (lo := 1) (hi := 64) bl (by omega)
  have rlo := inN_lo 1 4096 ro
  have rhi := inN_hi (lo := 1) (hi := 4096) ro (by omega)
  generalize inN 1 64 bl = nb at *
  generalize inN 1 4096 ro = room at *
  have HS := hid hS
  have hlen := hS.len
  clear hS
  go_enter Try.func4, Try.ntmps4
  go_wp2_with fail
  refine Calls.mono (H2.out _) ?_
  rintro e w1 ⟨rfl, hw⟩
  rw [hw]
  clear H2 hw
  go_wp2_with fail
  refine Calls.mono (H1.out _) ?_
  rintro e w1 ⟨rfl, hw⟩
  rw [hw]
  clear H1 hw
  have HP := hid (pair_any nb room lo (by omega) rlo rhi w)
  go_wp2_with fail
  refine Calls.mono HP.out ?_
  rintro e w1 ⟨p, p2, c, X, Y, X2, rfl, T, hX, b1⟩
  have HD : Hid (BState w.heap.size w w1 c p room nb 0 0 (-1)) := ⟨0, 0, [], -1, false, ⟨X, Y, _, _, T.cd, Good.nil _ _ _, by simp, fun k q => hX k (q.elim .inl (fun q => .inr (.inl q))), b1.size, b1⟩, by omega, by omega, rfl, by omega, .inl ⟨rfl, rfl⟩⟩
  clear HP T hX b1
  go_wp2_with fail
  go_loopw [12, 13, 14] (fun rv lv iv wt => ∃ (k : Nat) (rd la : Int), k ≤ n ∧ rv = .int .i64 rd ∧ lv = .int .i64 la ∧ iv = .int .i64 (k : Int) ∧ BState w.heap.size w wt c p room nb k rd la) (fun _ _ iv _ => n - (intOf iv).toNat)
  case atStart => exact ⟨0, 0, -1, Nat.zero_le _, rfl, rfl, rfl, HD.out⟩
  case round =>
    clear HD
    obtain ⟨k, rd, la, hk, rfl, rfl, rfl, hst⟩ := hrel
    obtain ⟨hi', mi', l, fu, off, hso, s1, s2, s3, s4, s5⟩ := hst
    have hbr : Below w.heap.size w wr := hso.facts.2.2.2.2.2
    by_cases hkn : k < n
    · have hSr := HS.out.below hbr
      obtain ⟨b, o, rfl, hbb, hc'⟩ := hSr.cel.resolve_left (by omega)
      have hkL : k < L.length := by omega
      have hdk : L[k]? = some L[k] := List.getElem?_eq_getElem hkL
      obtain ⟨q0, q1, q2, q3, q4⟩ := hc' k _ hdk
      have HOk := hid (HS.out.ok L[k] (List.getElem_mem hkL))
      have hkn' : (k : Int) < (n : Int) := by omega
      generalize L[k] = d at *
      have HSo := hid (And.intro hso (And.intro s5 hbr))
      clear hSr hc' hdk hkL hso hbr
      obtain ⟨W, hW⟩ : ∃ W, W = wr.alloc (.cells #[.int .i64 d.wh, .int .i64 d.kd, .int .i64 d.at_, .int .i64 d.fi, .slice d.aR d.nR d.cR] 42) := ⟨_, rfl⟩
      have bW : Below wr.heap.size wr W := by rw [hW]; exact (Below.refl _ _).alloc (Nat.le_refl _) _
      have zW : W.heap.size = wr.heap.size + 1 := by rw [hW]; simp
      have kW : W.heap[wr.heap.size]? = some (.cells #[.int .i64 d.wh, .int .i64 d.kd, .int .i64 d.at_, .int .i64 d.fi, .slice d.aR d.nR d.cR] 42 (0, 0)) := by
        rw [hW]
        show (wr.heap.push _)[wr.heap.size]? = _
        simp
      by_cases k1 : d.kd = 1
      · rw [k1] at q1 hW kW
        by_cases hC : rdC off nb d.at_ = 0
        · have HR := hid (HSo.out.1.read (by omega) bW HOk.out.wf (by omega) (by omega))
          simp only [hC, ↓reduceIte] at HR
          have hsum := hits_sum l 0 d.at_
          have hpos := hits_pos l 0 d.at_
          rw [if_pos rfl] at hsum
          generalize hitN l 0 d.at_ = h1 at *
          generalize missN l 0 d.at_ = h2 at *
          go_wp2_with fail
          rw [← hW]
          refine Calls.mono HR.out ?_
          rintro q w2 ⟨al, cp1, Z, rfl, so2, fr⟩
          have e2 : w2.cell? ⟨wr.heap.size, 2, none⟩ = some (.int .i64 d.at_) := (five_cells ((fr wr.heap.size (Nat.le_refl _) (by omega)).trans kW)).2.2.1
          obtain ⟨A0, hA0⟩ := holdL_last rlo l d.at_ Z
          have hat : 0 ≤ d.at_ := by
            unfold rdC at hC
            split at hC
            · omega
            · split at hC <;> omega
          obtain ⟨l2, hl2⟩ : ∃ l2, l2 = holdL room l d.at_ Z := ⟨_, rfl⟩
          rw [← hl2] at so2 hA0
          have HM : Hid (Solo w.heap.size w w2 c p room nb (k + 1) (hi' + h1) (mi' + h2) l2 fu off ∧ LastOk l2 d.at_ ∧ 0 ≤ hi' + h1 ∧ 0 ≤ mi' + h2 ∧ rd + 1 = hi' + h1 + (mi' + h2) ∧ hi' + h1 + (mi' + h2) ≤ (k + 1 : Nat)) := ⟨so2.more, .inr ⟨hat, A0, Z, hA0⟩, by omega, by omega, by omega, by omega⟩
          generalize hi' + h1 = hi2 at *
          generalize mi' + h2 = mi2 at *
          clear so2 fr HR hA0 hl2 hsum
          go_wp2_with fail
          refine Calls.mono (num_any 0 w2) ?_
          rintro e w3 ⟨rfl, hw3⟩
          rw [hw3]
          clear hw3
          go_wp2_with fail

          have HH := hid (HM.out.1.held rhi)
          refine Calls.mono HH.out ?_
          rintro q w4 ⟨ah, ch, rfl, rH, b4⟩
          have so4 := HM.out.1.below b4
          have HCn := hid so4.counts
          have K4 := hid (And.intro so4 (And.intro rH b4))
          clear HH rH b4 so4
          go_wp2_with fail
          refine Calls.mono HCn.out ?_
          rintro q w5 ⟨rfl, b5⟩
          have so5 := K4.out.1.below b5
          have r5 := rdi_up K4.out.2.1 b5
          have HU := hid (unlike_any (Nat.le_refl _) (c := ch) r5 (-1) (by have := so5.facts.2.1; omega))
          have hun : unlikeN (l2.map (·.1)) (-1) l2.length = l2.length := keys_all so5
          rw [hun] at HU
          have hle : ¬ ((room : Int) < (l2.length : Int)) := by have := so5.facts.2.1; omega
          obtain ⟨m1, m2, m3, m4, m5⟩ := HM.out.2
          have K5 := hid (And.intro so5 (And.intro r5 b5))
          clear HCn r5 b5 so5 hun
          go_wp2_with fail
          refine Calls.mono (num_any 0 w5) ?_
          rintro e w6 ⟨rfl, hw6⟩
          rw [hw6]
          clear hw6
          go_wp2_with fail
          refine Calls.mono (num_any 0 w5) ?_
          rintro e w6 ⟨rfl, hw6⟩
          rw [hw6]
          clear hw6
          go_wp2_with fail
          refine Calls.mono HU.out ?_
          rintro e w6 ⟨rfl, b6⟩
          have so6 := K5.out.1.below b6
          have r6 := rdi_up K5.out.2.1 b6
          have K6 := hid (And.intro so6 r6)
          clear HU so6 r6 b6 K4 K5
          rcases m1 with ⟨n1, n2⟩ | ⟨n1, A, z, n2⟩
          · subst n2
            have HF : Hid (BState w.heap.size w w6 c p room nb (k + 1) (hi2 + mi2) (-1)) := ⟨_, _, _, _, _, K6.out.1, m2, m3, rfl, m5, .inl ⟨rfl, rfl⟩⟩
            clear K6 HM
            have n1' : d.at_ < 0 := by omega
            go_wp2_with fail
            go_roundw
            case rel => exact ⟨k + 1, hi2 + mi2, -1, by omega, by first | rfl | go_num, by first | rfl | go_num, by go_num, HF.out⟩
            case measure => simp [intOf]; omega
          · obtain ⟨bh, oh, eh, hbh, hch⟩ := K6.out.2.2.resolve_left (by rw [n2]; simp)
            have cl := hch (l2.length - 1) (by rw [n2]; simp)
            have cv : (l2.map (·.1)).getD (l2.length - 1) 0 = d.at_ := by rw [n2]; simp
            rw [cv] at cl
            have ln : 1 ≤ l2.length := by rw [n2]; simp
            have HF : Hid (BState w.heap.size w w6 c p room nb (k + 1) (hi2 + mi2) d.at_) := ⟨_, _, _, _, _, K6.out.1, m2, m3, rfl, m5, .inr ⟨n1, A, z, n2⟩⟩
            subst eh
            clear K6 HM hch n2 cv
            have n1' : ¬ d.at_ < 0 := by omega
            generalize hll : l2.length = ll at *
            obtain ⟨lk, rfl⟩ : ∃ lk, ll = lk + 1 := ⟨ll - 1, by omega⟩
            rw [Nat.add_sub_cancel] at cl
            have n3 : ((lk : Int) + 1 == 0) = false := by simp; omega
            have n4 : decide (d.at_ < 0) = false := by simp; omega
            clear hll
            go_wp2_with fail
            go_roundw
            case rel => exact ⟨k + 1, hi2 + mi2, d.at_, by omega, by first | rfl | go_num, by first | rfl | go_num, by go_num, HF.out⟩
            case measure => simp [intOf]; omega
        · have HR := hid (HSo.out.1.read (by omega) bW HOk.out.wf (by omega) (by omega))
          simp only [if_neg hC] at HR
          have e1 : hitN l (rdC off nb d.at_) d.at_ = 0 := by unfold hitN; rw [if_neg (fun q => hC q.1)]
          have e2 : missN l (rdC off nb d.at_) d.at_ = 0 := by unfold missN; rw [if_neg (fun q => hC q.1)]
          rw [e1, e2, Int.add_zero, Int.add_zero] at HR
          generalize rdC off nb d.at_ = C at *
          go_wp2_with fail
          rw [← hW]
          refine Calls.mono HR.out ?_
          rintro q w2 ⟨al, cp1, Z, rfl, so2, fr⟩
          obtain ⟨l2, hl2⟩ : ∃ l2, l2 = l := ⟨_, rfl⟩
          rw [← hl2] at so2
          have HM : Hid (Solo w.heap.size w w2 c p room nb (k + 1) hi' mi' l2 fu off ∧ LastOk l2 la ∧ 0 ≤ hi' ∧ 0 ≤ mi' ∧ rd = hi' + mi' ∧ hi' + mi' ≤ (k + 1 : Nat)) := ⟨so2.more, by rw [hl2]; exact HSo.out.2.1, by omega, by omega, by omega, by omega⟩
          generalize hi' = hi2 at *
          generalize mi' = mi2 at *
          clear so2 fr HR hl2 e1 e2
          go_wp2_with fail
          refine Calls.mono (num_any C w2) ?_
          rintro e w3 ⟨rfl, hw3⟩
          rw [hw3]
          clear hw3
          go_wp2_with fail

          have HH := hid (HM.out.1.held rhi)
          refine Calls.mono HH.out ?_
          rintro q w4 ⟨ah, ch, rfl, rH, b4⟩
          have so4 := HM.out.1.below b4
          have HCn := hid so4.counts
          have K4 := hid (And.intro so4 (And.intro rH b4))
          clear HH rH b4 so4
          go_wp2_with fail
          refine Calls.mono HCn.out ?_
          rintro q w5 ⟨rfl, b5⟩
          have so5 := K4.out.1.below b5
          have r5 := rdi_up K4.out.2.1 b5
          have HU := hid (unlike_any (Nat.le_refl _) (c := ch) r5 (-1) (by have := so5.facts.2.1; omega))
          have hun : unlikeN (l2.map (·.1)) (-1) l2.length = l2.length := keys_all so5
          rw [hun] at HU
          have hle : ¬ ((room : Int) < (l2.length : Int)) := by have := so5.facts.2.1; omega
          obtain ⟨m1, m2, m3, m4, m5⟩ := HM.out.2
          have K5 := hid (And.intro so5 (And.intro r5 b5))
          clear HCn r5 b5 so5 hun
          go_wp2_with fail
          refine Calls.mono (num_any 0 w5) ?_
          rintro e w6 ⟨rfl, hw6⟩
          rw [hw6]
          clear hw6
          go_wp2_with fail
          refine Calls.mono (num_any 0 w5) ?_
          rintro e w6 ⟨rfl, hw6⟩
          rw [hw6]
          clear hw6
          go_wp2_with fail
          refine Calls.mono HU.out ?_
          rintro e w6 ⟨rfl, b6⟩
          have so6 := K5.out.1.below b6
          have r6 := rdi_up K5.out.2.1 b6
          have K6 := hid (And.intro so6 r6)
          clear HU so6 r6 b6 K4 K5
          rcases m1 with ⟨n1, n2⟩ | ⟨n1, A, z, n2⟩
          · subst n2
            have HF : Hid (BState w.heap.size w w6 c p room nb (k + 1) (hi2 + mi2) (-1)) := ⟨_, _, _, _, _, K6.out.1, m2, m3, rfl, m5, .inl ⟨rfl, rfl⟩⟩
            clear K6 HM
            have n1' : la < 0 := by omega
            go_wp2_with fail
            go_roundw
            case rel => exact ⟨k + 1, hi2 + mi2, -1, by omega, by first | rfl | go_num, by first | rfl | go_num, by go_num, HF.out⟩
            case measure => simp [intOf]; omega
          · obtain ⟨bh, oh, eh, hbh, hch⟩ := K6.out.2.2.resolve_left (by rw [n2]; simp)
            have cl := hch (l2.length - 1) (by rw [n2]; simp)
            have cv : (l2.map (·.1)).getD (l2.length - 1) 0 = la := by rw [n2]; simp
            rw [cv] at cl
            have ln : 1 ≤ l2.length := by rw [n2]; simp
            have HF : Hid (BState w.heap.size w w6 c p room nb (k + 1) (hi2 + mi2) la) := ⟨_, _, _, _, _, K6.out.1, m2, m3, rfl, m5, .inr ⟨n1, A, z, n2⟩⟩
            subst eh
            clear K6 HM hch n2 cv
            have n1' : ¬ la < 0 := by omega
            generalize hll : l2.length = ll at *
            obtain ⟨lk, rfl⟩ : ∃ lk, ll = lk + 1 := ⟨ll - 1, by omega⟩
            rw [Nat.add_sub_cancel] at cl
            have n3 : ((lk : Int) + 1 == 0) = false := by simp; omega
            have n4 : decide (la < 0) = false := by simp; omega
            clear hll
            go_wp2_with fail
            go_roundw
            case rel => exact ⟨k + 1, hi2 + mi2, la, by omega, by first | rfl | go_num, by first | rfl | go_num, by go_num, HF.out⟩
            case measure => simp [intOf]; omega
      by_cases k2 : d.kd = 2
      · rw [k2] at q1 hW kW
        have hBw := HSo.out.1.facts.2.2.2.2.1
        have HDt := hid (data_any (w := W.drew) (B := w.heap.size) (by show w.heap.size ≤ W.heap.size; omega) d.wh 2 d.at_ d.fi d.cR (HOk.out.rd.below (HSo.out.2.2.trans (bW.drew.mono hBw))))
        generalize dataZ d.fi d.zs = Z at *
        obtain ⟨g0, g1, g2, g3, g4⟩ := five_cells kW
        have HX : Hid (∀ w2 al cp1, RdS w.heap.size W.drew.heap.size w2 al Z.length Z → Below W.drew.heap.size W.drew w2 → (w2.cell? ⟨wr.heap.size, 0, none⟩ = some (.int .i64 d.wh) ∧ w2.cell? ⟨wr.heap.size, 1, none⟩ = some (.int .i64 2) ∧ w2.cell? ⟨wr.heap.size, 2, none⟩ = some (.int .i64 d.at_) ∧ w2.cell? ⟨wr.heap.size, 3, none⟩ = some (.int .i64 d.fi) ∧ w2.cell? ⟨wr.heap.size, 4, none⟩ = some (.slice d.aR d.nR d.cR)) ∧
            Calls Try.prog 10 #[.pointer (some ⟨c, 0, none⟩), .int .i64 d.at_, .slice al Z.length cp1] w2 fun e w3 => e = .returned (.int .i64 (writeC off fu nb d.at_ Z.length)) ∧ (w3.cell? ⟨wr.heap.size, 0, none⟩ = some (.int .i64 d.wh) ∧ w3.cell? ⟨wr.heap.size, 1, none⟩ = some (.int .i64 2) ∧ w3.cell? ⟨wr.heap.size, 2, none⟩ = some (.int .i64 d.at_) ∧ w3.cell? ⟨wr.heap.size, 3, none⟩ = some (.int .i64 d.fi) ∧ w3.cell? ⟨wr.heap.size, 4, none⟩ = some (.slice d.aR d.nR d.cR)) ∧ Solo w.heap.size w w3 c p room nb (k + 1) hi' mi' (if writeC off fu nb d.at_ Z.length = 0 then holdL room l d.at_ Z else l) (writeF off fu nb d.at_ Z.length) (writeO off fu nb d.at_ Z.length)) := by
          intro w2 al cp1 r2 b2
          have zD : W.drew.heap.size = wr.heap.size + 1 := zW
          have kk := (b2.block wr.heap.size (by omega)).trans kW
          have s2' := b2.size
          refine ⟨five_cells kk, Calls.mono (HSo.out.1.write (by omega) (bW.drew.trans (b2.mono (by omega))) d.at_ cp1 (r2.low (by omega))) ?_⟩
          rintro e w3 ⟨rfl, so3, fr⟩
          exact ⟨rfl, five_cells ((fr wr.heap.size (Nat.le_refl _) (by omega)).trans kk), so3⟩
        have hCat : writeC off fu nb d.at_ Z.length = 0 → 0 ≤ d.at_ := fun hz => by
          unfold writeC at hz
          split at hz
          · omega
          · split at hz <;> omega
        generalize writeF off fu nb d.at_ Z.length = fu2 at *
        generalize writeO off fu nb d.at_ Z.length = off2 at *
        generalize writeC off fu nb d.at_ Z.length = C at *
        obtain ⟨A0, hA0⟩ := holdL_last rlo l d.at_ Z
        generalize Z.length = N at *
        unfold cactV at HDt
        by_cases hC : C = 0
        · subst hC
          have hat := hCat rfl
          simp only [↓reduceIte] at HX
          clear hCat
          go_wp2_with fail
          rw [← hW]
          clear hW
          go_region_held3 (fun w' => w'.cell? ⟨wr.heap.size, 0, none⟩ = some (.int .i64 d.wh) ∧ w'.cell? ⟨wr.heap.size, 1, none⟩ = some (.int .i64 2) ∧ w'.cell? ⟨wr.heap.size, 2, none⟩ = some (.int .i64 d.at_) ∧ w'.cell? ⟨wr.heap.size, 3, none⟩ = some (.int .i64 d.fi) ∧ w'.cell? ⟨wr.heap.size, 4, none⟩ = some (.slice d.aR d.nR d.cR)) (first | exact ⟨by assumption, by assumption, by assumption, by assumption, by assumption⟩ | go_keep)
            ((first
              | (go_at_call 14; refine Calls.mono HDt.out ?_; rintro e w2 ⟨al, cp1, rfl, r2, b2⟩
                 have K1 := hid (HX.out w2 al cp1 r2 b2)
                 have i0 := K1.out.1.1
                 have i1 := K1.out.1.2.1
                 have i2 := K1.out.1.2.2.1
                 have i3 := K1.out.1.2.2.2.1
                 have i4 := K1.out.1.2.2.2.2
                 clear r2 b2)
              | (go_at_call 10; refine Calls.mono K1.out.2 ?_; rintro e w3 ⟨rfl, ⟨j0, j1, j2, j3, j4⟩, so3⟩
                 have SO3 := hid so3
                 clear so3)
              | (go_at_call 9; refine Calls.mono (num_any _ w3) ?_; rintro e w5 ⟨rfl, hw5⟩; rw [hw5]; clear hw5)))
          obtain ⟨l2, hl2⟩ : ∃ l2, l2 = holdL room l d.at_ Z := ⟨_, rfl⟩
          have HM : Hid (Solo w.heap.size w w3 c p room nb (k + 1) hi' mi' l2 fu2 off2 ∧ LastOk l2 d.at_ ∧ 0 ≤ hi' ∧ 0 ≤ mi' ∧ rd = hi' + mi' ∧ hi' + mi' ≤ (k + 1 : Nat)) := ⟨by rw [hl2]; exact SO3.out, .inr ⟨hat, A0, Z, by rw [hl2]; exact hA0⟩, by omega, by omega, by omega, by omega⟩
          generalize hi' = hi2 at *
          generalize mi' = mi2 at *
          clear SO3 HX HDt g0 g1 g2 g3 g4 i0 i1 i2 i3 i4 j0 j1 j3 j4 K1 hA0 hl2
          go_wp2_with fail
          have HH := hid (HM.out.1.held rhi)
          refine Calls.mono HH.out ?_
          rintro q w4 ⟨ah, ch, rfl, rH, b4⟩
          have so4 := HM.out.1.below b4
          have HCn := hid so4.counts
          have K4 := hid (And.intro so4 (And.intro rH b4))
          clear HH rH b4 so4
          go_wp2_with fail
          refine Calls.mono HCn.out ?_
          rintro q w5 ⟨rfl, b5⟩
          have so5 := K4.out.1.below b5
          have r5 := rdi_up K4.out.2.1 b5
          have HU := hid (unlike_any (Nat.le_refl _) (c := ch) r5 (-1) (by have := so5.facts.2.1; omega))
          have hun : unlikeN (l2.map (·.1)) (-1) l2.length = l2.length := keys_all so5
          rw [hun] at HU
          have hle : ¬ ((room : Int) < (l2.length : Int)) := by have := so5.facts.2.1; omega
          obtain ⟨m1, m2, m3, m4, m5⟩ := HM.out.2
          have K5 := hid (And.intro so5 (And.intro r5 b5))
          clear HCn r5 b5 so5 hun
          go_wp2_with fail
          refine Calls.mono (num_any 0 w5) ?_
          rintro e w6 ⟨rfl, hw6⟩
          rw [hw6]
          clear hw6
          go_wp2_with fail
          refine Calls.mono (num_any 0 w5) ?_
          rintro e w6 ⟨rfl, hw6⟩
          rw [hw6]
          clear hw6
          go_wp2_with fail
          refine Calls.mono HU.out ?_
          rintro e w6 ⟨rfl, b6⟩
          have so6 := K5.out.1.below b6
          have r6 := rdi_up K5.out.2.1 b6
          have K6 := hid (And.intro so6 r6)
          clear HU so6 r6 b6 K4 K5
          rcases m1 with ⟨n1, n2⟩ | ⟨n1, A, z, n2⟩
          · subst n2
            have HF : Hid (BState w.heap.size w w6 c p room nb (k + 1) (hi2 + mi2) (-1)) := ⟨_, _, _, _, _, K6.out.1, m2, m3, rfl, m5, .inl ⟨rfl, rfl⟩⟩
            clear K6 HM
            have n1' : d.at_ < 0 := by omega
            go_wp2_with fail
            go_roundw
            case rel => exact ⟨k + 1, hi2 + mi2, -1, by omega, by first | rfl | go_num, by first | rfl | go_num, by go_num, HF.out⟩
            case measure => simp [intOf]; omega
          · obtain ⟨bh, oh, eh, hbh, hch⟩ := K6.out.2.2.resolve_left (by rw [n2]; simp)
            have cl := hch (l2.length - 1) (by rw [n2]; simp)
            have cv : (l2.map (·.1)).getD (l2.length - 1) 0 = d.at_ := by rw [n2]; simp
            rw [cv] at cl
            have ln : 1 ≤ l2.length := by rw [n2]; simp
            have HF : Hid (BState w.heap.size w w6 c p room nb (k + 1) (hi2 + mi2) d.at_) := ⟨_, _, _, _, _, K6.out.1, m2, m3, rfl, m5, .inr ⟨n1, A, z, n2⟩⟩
            subst eh
            clear K6 HM hch n2 cv
            have n1' : ¬ d.at_ < 0 := by omega
            generalize hll : l2.length = ll at *
            obtain ⟨lk, rfl⟩ : ∃ lk, ll = lk + 1 := ⟨ll - 1, by omega⟩
            rw [Nat.add_sub_cancel] at cl
            have n3 : ((lk : Int) + 1 == 0) = false := by simp; omega
            have n4 : decide (d.at_ < 0) = false := by simp; omega
            clear hll
            go_wp2_with fail
            go_roundw
            case rel => exact ⟨k + 1, hi2 + mi2, d.at_, by omega, by first | rfl | go_num, by first | rfl | go_num, by go_num, HF.out⟩
            case measure => simp [intOf]; omega
        · simp only [if_neg hC] at HX
          clear hCat
          go_wp2_with fail
          rw [← hW]
          clear hW
          go_region_held3 (fun w' => w'.cell? ⟨wr.heap.size, 0, none⟩ = some (.int .i64 d.wh) ∧ w'.cell? ⟨wr.heap.size, 1, none⟩ = some (.int .i64 2) ∧ w'.cell? ⟨wr.heap.size, 2, none⟩ = some (.int .i64 d.at_) ∧ w'.cell? ⟨wr.heap.size, 3, none⟩ = some (.int .i64 d.fi) ∧ w'.cell? ⟨wr.heap.size, 4, none⟩ = some (.slice d.aR d.nR d.cR)) (first | exact ⟨by assumption, by assumption, by assumption, by assumption, by assumption⟩ | go_keep)
            ((first
              | (go_at_call 14; refine Calls.mono HDt.out ?_; rintro e w2 ⟨al, cp1, rfl, r2, b2⟩
                 have K1 := hid (HX.out w2 al cp1 r2 b2)
                 have i0 := K1.out.1.1
                 have i1 := K1.out.1.2.1
                 have i2 := K1.out.1.2.2.1
                 have i3 := K1.out.1.2.2.2.1
                 have i4 := K1.out.1.2.2.2.2
                 clear r2 b2)
              | (go_at_call 10; refine Calls.mono K1.out.2 ?_; rintro e w3 ⟨rfl, ⟨j0, j1, j2, j3, j4⟩, so3⟩
                 have SO3 := hid so3
                 clear so3)
              | (go_at_call 9; refine Calls.mono (num_any _ w3) ?_; rintro e w5 ⟨rfl, hw5⟩; rw [hw5]; clear hw5)))
          obtain ⟨l2, hl2⟩ : ∃ l2, l2 = l := ⟨_, rfl⟩
          have HM : Hid (Solo w.heap.size w w3 c p room nb (k + 1) hi' mi' l2 fu2 off2 ∧ LastOk l2 la ∧ 0 ≤ hi' ∧ 0 ≤ mi' ∧ rd = hi' + mi' ∧ hi' + mi' ≤ (k + 1 : Nat)) := ⟨by rw [hl2]; exact SO3.out, by rw [hl2]; exact HSo.out.2.1, by omega, by omega, by omega, by omega⟩
          generalize hi' = hi2 at *
          generalize mi' = mi2 at *
          clear SO3 HX HDt g0 g1 g2 g3 g4 i0 i1 i2 i3 i4 j0 j1 j3 j4 K1 hA0 hl2
          go_wp2_with fail
          have HH := hid (HM.out.1.held rhi)
          refine Calls.mono HH.out ?_
          rintro q w4 ⟨ah, ch, rfl, rH, b4⟩
          have so4 := HM.out.1.below b4
          have HCn := hid so4.counts
          have K4 := hid (And.intro so4 (And.intro rH b4))
          clear HH rH b4 so4
          go_wp2_with fail
          refine Calls.mono HCn.out ?_
          rintro q w5 ⟨rfl, b5⟩
          have so5 := K4.out.1.below b5
          have r5 := rdi_up K4.out.2.1 b5
          have HU := hid (unlike_any (Nat.le_refl _) (c := ch) r5 (-1) (by have := so5.facts.2.1; omega))
          have hun : unlikeN (l2.map (·.1)) (-1) l2.length = l2.length := keys_all so5
          rw [hun] at HU
          have hle : ¬ ((room : Int) < (l2.length : Int)) := by have := so5.facts.2.1; omega
          obtain ⟨m1, m2, m3, m4, m5⟩ := HM.out.2
          have K5 := hid (And.intro so5 (And.intro r5 b5))
          clear HCn r5 b5 so5 hun
          go_wp2_with fail
          refine Calls.mono (num_any 0 w5) ?_
          rintro e w6 ⟨rfl, hw6⟩
          rw [hw6]
          clear hw6
          go_wp2_with fail
          refine Calls.mono (num_any 0 w5) ?_
          rintro e w6 ⟨rfl, hw6⟩
          rw [hw6]
          clear hw6
          go_wp2_with fail
          refine Calls.mono HU.out ?_
          rintro e w6 ⟨rfl, b6⟩
          have so6 := K5.out.1.below b6
          have r6 := rdi_up K5.out.2.1 b6
          have K6 := hid (And.intro so6 r6)
          clear HU so6 r6 b6 K4 K5
          rcases m1 with ⟨n1, n2⟩ | ⟨n1, A, z, n2⟩
          · subst n2
            have HF : Hid (BState w.heap.size w w6 c p room nb (k + 1) (hi2 + mi2) (-1)) := ⟨_, _, _, _, _, K6.out.1, m2, m3, rfl, m5, .inl ⟨rfl, rfl⟩⟩
            clear K6 HM
            have n1' : la < 0 := by omega
            go_wp2_with fail
            go_roundw
            case rel => exact ⟨k + 1, hi2 + mi2, -1, by omega, by first | rfl | go_num, by first | rfl | go_num, by go_num, HF.out⟩
            case measure => simp [intOf]; omega
          · obtain ⟨bh, oh, eh, hbh, hch⟩ := K6.out.2.2.resolve_left (by rw [n2]; simp)
            have cl := hch (l2.length - 1) (by rw [n2]; simp)
            have cv : (l2.map (·.1)).getD (l2.length - 1) 0 = la := by rw [n2]; simp
            rw [cv] at cl
            have ln : 1 ≤ l2.length := by rw [n2]; simp
            have HF : Hid (BState w.heap.size w w6 c p room nb (k + 1) (hi2 + mi2) la) := ⟨_, _, _, _, _, K6.out.1, m2, m3, rfl, m5, .inr ⟨n1, A, z, n2⟩⟩
            subst eh
            clear K6 HM hch n2 cv
            have n1' : ¬ la < 0 := by omega
            generalize hll : l2.length = ll at *
            obtain ⟨lk, rfl⟩ : ∃ lk, ll = lk + 1 := ⟨ll - 1, by omega⟩
            rw [Nat.add_sub_cancel] at cl
            have n3 : ((lk : Int) + 1 == 0) = false := by simp; omega
            have n4 : decide (la < 0) = false := by simp; omega
            clear hll
            go_wp2_with fail
            go_roundw
            case rel => exact ⟨k + 1, hi2 + mi2, la, by omega, by first | rfl | go_num, by first | rfl | go_num, by go_num, HF.out⟩
            case measure => simp [intOf]; omega
      by_cases k8 : d.kd = 8
      · rw [k8] at q1 hW kW
        have HD0 := HSo.out.1.disk
        have hxl : d.at_ ≤ 9223372036854775807 := by have := HOk.out.wf; simp [Lit.wf] at this; omega
        have HR := hid (HSo.out.1.fuse (w1 := W.drew) bW.drew d.at_ hxl)
        have g0 : W.cell? ⟨c, 0, none⟩ = some (.pointer (some ⟨p, 0, none⟩)) := (bW.cell (p := ⟨c, 0, none⟩) HD0.2).trans HD0.1
        have g2 : W.cell? ⟨wr.heap.size, 2, none⟩ = some (.int .i64 d.at_) := (five_cells kW).2.2.1
        have HX : Hid (∀ w2 fu', Solo w.heap.size w w2 c p room nb k hi' mi' l fu' off → Fr wr.heap.size W.drew w2 → w2.cell? ⟨wr.heap.size, 2, none⟩ = some (.int .i64 d.at_) ∧ Solo w.heap.size w w2 c p room nb (k + 1) hi' mi' l fu' off) := fun w2 fu' so2 fr => ⟨(five_cells ((fr wr.heap.size (Nat.le_refl _) (by show wr.heap.size < W.heap.size; omega)).trans kW)).2.2.1, so2.more⟩
        clear HD0
        go_wp2_with fail
        rw [← hW]
        clear hW
        go_region_held3 (fun w' => w'.cell? ⟨c, 0, none⟩ = some (.pointer (some ⟨p, 0, none⟩)) ∧ w'.cell? ⟨wr.heap.size, 2, none⟩ = some (.int .i64 d.at_)) (first | exact ⟨by assumption, by assumption⟩ | go_keep)
          ((go_at_call 15; refine Calls.mono HR.out ?_; rintro e w2 ⟨C, fu', rfl, so2, fr, d0⟩
            have SO2 := hid (HX.out w2 fu' so2 fr)
            have d2 := SO2.out.1
            clear so2 fr))
        obtain ⟨l2, hl2⟩ : ∃ l2, l2 = l := ⟨_, rfl⟩
        have HM : Hid (Solo w.heap.size w w2 c p room nb (k + 1) hi' mi' l2 fu' off ∧ LastOk l2 la ∧ 0 ≤ hi' ∧ 0 ≤ mi' ∧ rd = hi' + mi' ∧ hi' + mi' ≤ (k + 1 : Nat)) := ⟨by rw [hl2]; exact SO2.out.2, by rw [hl2]; exact HSo.out.2.1, by omega, by omega, by omega, by omega⟩
        generalize hi' = hi2 at *
        generalize mi' = mi2 at *
        clear hl2 HR g0 g2 d0 d2 SO2 HX
        go_wp2_with fail

        have HH := hid (HM.out.1.held rhi)
        refine Calls.mono HH.out ?_
        rintro q w4 ⟨ah, ch, rfl, rH, b4⟩
        have so4 := HM.out.1.below b4
        have HCn := hid so4.counts
        have K4 := hid (And.intro so4 (And.intro rH b4))
        clear HH rH b4 so4
        go_wp2_with fail
        refine Calls.mono HCn.out ?_
        rintro q w5 ⟨rfl, b5⟩
        have so5 := K4.out.1.below b5
        have r5 := rdi_up K4.out.2.1 b5
        have HU := hid (unlike_any (Nat.le_refl _) (c := ch) r5 (-1) (by have := so5.facts.2.1; omega))
        have hun : unlikeN (l2.map (·.1)) (-1) l2.length = l2.length := keys_all so5
        rw [hun] at HU
        have hle : ¬ ((room : Int) < (l2.length : Int)) := by have := so5.facts.2.1; omega
        obtain ⟨m1, m2, m3, m4, m5⟩ := HM.out.2
        have K5 := hid (And.intro so5 (And.intro r5 b5))
        clear HCn r5 b5 so5 hun
        go_wp2_with fail
        refine Calls.mono (num_any 0 w5) ?_
        rintro e w6 ⟨rfl, hw6⟩
        rw [hw6]
        clear hw6
        go_wp2_with fail
        refine Calls.mono (num_any 0 w5) ?_
        rintro e w6 ⟨rfl, hw6⟩
        rw [hw6]
        clear hw6
        go_wp2_with fail
        refine Calls.mono HU.out ?_
        rintro e w6 ⟨rfl, b6⟩
        have so6 := K5.out.1.below b6
        have r6 := rdi_up K5.out.2.1 b6
        have K6 := hid (And.intro so6 r6)
        clear HU so6 r6 b6 K4 K5
        rcases m1 with ⟨n1, n2⟩ | ⟨n1, A, z, n2⟩
        · subst n2
          have HF : Hid (BState w.heap.size w w6 c p room nb (k + 1) (hi2 + mi2) (-1)) := ⟨_, _, _, _, _, K6.out.1, m2, m3, rfl, m5, .inl ⟨rfl, rfl⟩⟩
          clear K6 HM
          have n1' : la < 0 := by omega
          go_wp2_with fail
          go_roundw
          case rel => exact ⟨k + 1, hi2 + mi2, -1, by omega, by first | rfl | go_num, by first | rfl | go_num, by go_num, HF.out⟩
          case measure => simp [intOf]; omega
        · obtain ⟨bh, oh, eh, hbh, hch⟩ := K6.out.2.2.resolve_left (by rw [n2]; simp)
          have cl := hch (l2.length - 1) (by rw [n2]; simp)
          have cv : (l2.map (·.1)).getD (l2.length - 1) 0 = la := by rw [n2]; simp
          rw [cv] at cl
          have ln : 1 ≤ l2.length := by rw [n2]; simp
          have HF : Hid (BState w.heap.size w w6 c p room nb (k + 1) (hi2 + mi2) la) := ⟨_, _, _, _, _, K6.out.1, m2, m3, rfl, m5, .inr ⟨n1, A, z, n2⟩⟩
          subst eh
          clear K6 HM hch n2 cv
          have n1' : ¬ la < 0 := by omega
          generalize hll : l2.length = ll at *
          obtain ⟨lk, rfl⟩ : ∃ lk, ll = lk + 1 := ⟨ll - 1, by omega⟩
          rw [Nat.add_sub_cancel] at cl
          have n3 : ((lk : Int) + 1 == 0) = false := by simp; omega
          have n4 : decide (la < 0) = false := by simp; omega
          clear hll
          go_wp2_with fail
          go_roundw
          case rel => exact ⟨k + 1, hi2 + mi2, la, by omega, by first | rfl | go_num, by first | rfl | go_num, by go_num, HF.out⟩
          case measure => simp [intOf]; omega
      by_cases k6 : d.kd = 6
      · rw [k6] at q1 hW kW
        have HR := hid (HSo.out.1.forget bW)
        go_wp2_with fail
        rw [← hW]
        refine Calls.mono HR.out ?_
        rintro q w2 ⟨rfl, so2, fr⟩
        obtain ⟨l2, hl2⟩ : ∃ l2 : List (Int × List Int), l2 = [] := ⟨_, rfl⟩
        rw [← hl2] at so2
        have HM : Hid (Solo w.heap.size w w2 c p room nb (k + 1) hi' mi' l2 fu off ∧ LastOk l2 (-1) ∧ 0 ≤ hi' ∧ 0 ≤ mi' ∧ rd = hi' + mi' ∧ hi' + mi' ≤ (k + 1 : Nat)) := ⟨so2.more, .inl ⟨rfl, hl2⟩, by omega, by omega, by omega, by omega⟩
        generalize hi' = hi2 at *
        generalize mi' = mi2 at *
        clear so2 fr HR hl2
        go_wp2_with fail

        have HH := hid (HM.out.1.held rhi)
        refine Calls.mono HH.out ?_
        rintro q w4 ⟨ah, ch, rfl, rH, b4⟩
        have so4 := HM.out.1.below b4
        have HCn := hid so4.counts
        have K4 := hid (And.intro so4 (And.intro rH b4))
        clear HH rH b4 so4
        go_wp2_with fail
        refine Calls.mono HCn.out ?_
        rintro q w5 ⟨rfl, b5⟩
        have so5 := K4.out.1.below b5
        have r5 := rdi_up K4.out.2.1 b5
        have HU := hid (unlike_any (Nat.le_refl _) (c := ch) r5 (-1) (by have := so5.facts.2.1; omega))
        have hun : unlikeN (l2.map (·.1)) (-1) l2.length = l2.length := keys_all so5
        rw [hun] at HU
        have hle : ¬ ((room : Int) < (l2.length : Int)) := by have := so5.facts.2.1; omega
        obtain ⟨m1, m2, m3, m4, m5⟩ := HM.out.2
        have K5 := hid (And.intro so5 (And.intro r5 b5))
        clear HCn r5 b5 so5 hun
        go_wp2_with fail
        refine Calls.mono (num_any 0 w5) ?_
        rintro e w6 ⟨rfl, hw6⟩
        rw [hw6]
        clear hw6
        go_wp2_with fail
        refine Calls.mono (num_any 0 w5) ?_
        rintro e w6 ⟨rfl, hw6⟩
        rw [hw6]
        clear hw6
        go_wp2_with fail
        refine Calls.mono HU.out ?_
        rintro e w6 ⟨rfl, b6⟩
        have so6 := K5.out.1.below b6
        have r6 := rdi_up K5.out.2.1 b6
        have K6 := hid (And.intro so6 r6)
        clear HU so6 r6 b6 K4 K5
        rcases m1 with ⟨n1, n2⟩ | ⟨n1, A, z, n2⟩
        · subst n2
          have HF : Hid (BState w.heap.size w w6 c p room nb (k + 1) (hi2 + mi2) (-1)) := ⟨_, _, _, _, _, K6.out.1, m2, m3, rfl, m5, .inl ⟨rfl, rfl⟩⟩
          clear K6 HM
          have n1' : (-1) < 0 := by omega
          go_wp2_with fail
          go_roundw
          case rel => exact ⟨k + 1, hi2 + mi2, -1, by omega, by first | rfl | go_num, by first | rfl | go_num, by go_num, HF.out⟩
          case measure => simp [intOf]; omega
        · omega
      obtain ⟨l2, hl2⟩ : ∃ l2, l2 = l := ⟨_, rfl⟩
      have HM : Hid (Solo w.heap.size w W c p room nb (k + 1) hi' mi' l2 fu off ∧ LastOk l2 la ∧ 0 ≤ hi' ∧ 0 ≤ mi' ∧ rd = hi' + mi' ∧ hi' + mi' ≤ (k + 1 : Nat)) := ⟨by rw [hl2]; exact (HSo.out.1.below bW).more, by rw [hl2]; exact HSo.out.2.1, by omega, by omega, by omega, by omega⟩
      generalize hi' = hi2 at *
      generalize mi' = mi2 at *
      clear hl2
      go_wp2_with fail
      rw [← hW]

      have HH := hid (HM.out.1.held rhi)
      refine Calls.mono HH.out ?_
      rintro q w4 ⟨ah, ch, rfl, rH, b4⟩
      have so4 := HM.out.1.below b4
      have HCn := hid so4.counts
      have K4 := hid (And.intro so4 (And.intro rH b4))
      clear HH rH b4 so4
      go_wp2_with fail
      refine Calls.mono HCn.out ?_
      rintro q w5 ⟨rfl, b5⟩
      have so5 := K4.out.1.below b5
      have r5 := rdi_up K4.out.2.1 b5
      have HU := hid (unlike_any (Nat.le_refl _) (c := ch) r5 (-1) (by have := so5.facts.2.1; omega))
      have hun : unlikeN (l2.map (·.1)) (-1) l2.length = l2.length := keys_all so5
      rw [hun] at HU
      have hle : ¬ ((room : Int) < (l2.length : Int)) := by have := so5.facts.2.1; omega
      obtain ⟨m1, m2, m3, m4, m5⟩ := HM.out.2
      have K5 := hid (And.intro so5 (And.intro r5 b5))
      clear HCn r5 b5 so5 hun
      go_wp2_with fail
      refine Calls.mono (num_any 0 w5) ?_
      rintro e w6 ⟨rfl, hw6⟩
      rw [hw6]
      clear hw6
      go_wp2_with fail
      refine Calls.mono (num_any 0 w5) ?_
      rintro e w6 ⟨rfl, hw6⟩
      rw [hw6]
      clear hw6
      go_wp2_with fail
      refine Calls.mono HU.out ?_
      rintro e w6 ⟨rfl, b6⟩
      have so6 := K5.out.1.below b6
      have r6 := rdi_up K5.out.2.1 b6
      have K6 := hid (And.intro so6 r6)
      clear HU so6 r6 b6 K4 K5
      rcases m1 with ⟨n1, n2⟩ | ⟨n1, A, z, n2⟩
      · subst n2
        have HF : Hid (BState w.heap.size w w6 c p room nb (k + 1) (hi2 + mi2) (-1)) := ⟨_, _, _, _, _, K6.out.1, m2, m3, rfl, m5, .inl ⟨rfl, rfl⟩⟩
        clear K6 HM
        have n1' : la < 0 := by omega
        go_wp2_with fail
        go_roundw
        case rel => exact ⟨k + 1, hi2 + mi2, -1, by omega, by first | rfl | go_num, by first | rfl | go_num, by go_num, HF.out⟩
        case measure => simp [intOf]; omega
      · obtain ⟨bh, oh, eh, hbh, hch⟩ := K6.out.2.2.resolve_left (by rw [n2]; simp)
        have cl := hch (l2.length - 1) (by rw [n2]; simp)
        have cv : (l2.map (·.1)).getD (l2.length - 1) 0 = la := by rw [n2]; simp
        rw [cv] at cl
        have ln : 1 ≤ l2.length := by rw [n2]; simp
        have HF : Hid (BState w.heap.size w w6 c p room nb (k + 1) (hi2 + mi2) la) := ⟨_, _, _, _, _, K6.out.1, m2, m3, rfl, m5, .inr ⟨n1, A, z, n2⟩⟩
        subst eh
        clear K6 HM hch n2 cv
        have n1' : ¬ la < 0 := by omega
        generalize hll : l2.length = ll at *
        obtain ⟨lk, rfl⟩ : ∃ lk, ll = lk + 1 := ⟨ll - 1, by omega⟩
        rw [Nat.add_sub_cancel] at cl
        have n3 : ((lk : Int) + 1 == 0) = false := by simp; omega
        have n4 : decide (la < 0) = false := by simp; omega
        clear hll
        go_wp2_with fail
        go_roundw
        case rel => exact ⟨k + 1, hi2 + mi2, la, by omega, by first | rfl | go_num, by first | rfl | go_num, by go_num, HF.out⟩
        case measure => simp [intOf]; omega
    · obtain rfl : k = n := by omega
      have hkn' : ¬ (k : Int) < (k : Int) := by omega
      have HSo := hid (And.intro hso hbr)
      have HR := hid (hso.read (by omega) (Below.refl _ _) (x := 0) rfl (by omega) (by omega))
      clear hso hbr s5
      cases off
      · have hC : rdC false nb 0 = 0 := by unfold rdC; rw [if_neg (by simp), if_neg (by omega)]
        simp only [hC, ↓reduceIte] at HR
        have hpos := hits_pos l 0 0
        generalize hitN l 0 0 = h1 at *
        generalize missN l 0 0 = h2 at *
        go_wp2_with fail
        refine Calls.mono HR.out ?_
        rintro q w2 ⟨al, cp1, Z, rfl, so2, fr⟩
        have HH := hid (so2.held rhi)
        have SO2 := hid so2
        have hlast : 1 ≤ (holdL room l 0 Z).length := by
          obtain ⟨A0, hA0⟩ := holdL_last rlo l 0 Z
          rw [hA0]
          simp
        generalize holdL room l 0 Z = l2 at *
        clear so2 fr HR
        go_wp2_with fail
        refine Calls.mono HH.out ?_
        rintro q w3 ⟨ah, ch, rfl, rH, b3⟩
        have so3 := SO2.out.below b3
        have g0 := so3.disk.1
        have K3 : Hid (Below w3.heap.size w3 w3.drew) := (Below.refl _ _).drew
        have HF : Hid (∀ wt, Below w3.heap.size w3 wt → Below w.heap.size w wt) := fun wt hb => so3.facts.2.2.2.2.2.trans (hb.mono so3.facts.2.2.2.2.1)
        have HO : Hid (∀ wt, Below w3.heap.size w3 wt → Calls Try.prog 18 #[.pointer (some ⟨p, 0, none⟩)] wt fun q w' => q = .returned (.bool true) ∧ Below w3.heap.size w3 w' ∧ w'.cell? ⟨c, 0, none⟩ = some (.pointer (some ⟨p, 0, none⟩))) := fun wt hb => by
          have sot := so3.below hb
          refine Calls.mono sot.on ?_
          rintro q w' ⟨rfl, b'⟩
          exact ⟨rfl, hb.trans (b'.mono hb.size), (sot.below b').disk.1⟩
        clear rH b3 HH SO2 so3 HSo
        generalize l2.length = ll at *
        have hl1 : decide ((0 : Int) < (ll : Int)) = true := by simp; omega
        have hl2 : decide (0 < ll) = true := by simp; omega
        go_wp2_with fail
        refine wp_region_held_drew (S := fun w' => w'.cell? ⟨c, 0, none⟩ = some (.pointer (some ⟨p, 0, none⟩))) (by kernel_rfl) g0 (fun hHeld => ?_)
        refine wpAnyH_take (i := 0) (oi := ({ dst := some 163, op := Op.move (Operand.tmp 25), type := 30, pos := _, after := _, guard := none } : Oper)) (v := ?_) rfl (by kernel_rfl) (by kernel_rfl) (by kernel_rfl) (fun _ _ _ h => h) (Or.inl ⟨by rfl, ?_⟩) (by assumption) ?_
        rotate_left
        · intro w' hSw
          (try dsimp only at hSw)
          first | (go_simp; done) | (go_simp; with_reducible rfl)
        try simp only [Act.put, List.setIfInBounds_toArray, List.set_cons_zero, List.set_cons_succ]
        refine wpAnyH_take (i := 3) (oi := ({ dst := some 166, op := Op.move (Operand.tmp 10), type := 26, pos := _, after := _, guard := none } : Oper)) (v := ?_) rfl (by kernel_rfl) (by kernel_rfl) (by kernel_rfl) (fun _ _ _ h => h) (Or.inl ⟨by rfl, ?_⟩) (by assumption) ?_
        rotate_left
        · intro w' hSw
          (try dsimp only at hSw)
          first | (go_simp; done) | (go_simp; with_reducible rfl)
        try simp only [Act.put, List.setIfInBounds_toArray, List.set_cons_zero, List.set_cons_succ]
        refine wpAnyH_take (i := 4) (oi := ({ dst := some 167, op := Op.nilCheck (Operand.tmp 166), type := 0, pos := _, after := _, guard := none } : Oper)) (v := ?_) rfl (by kernel_rfl) (by kernel_rfl) (by kernel_rfl) (fun _ _ _ h => h) (Or.inl ⟨by rfl, ?_⟩) (by assumption) ?_
        rotate_left
        · intro w' hSw
          (try dsimp only at hSw)
          first | (go_simp; done) | (go_simp; with_reducible rfl)
        try simp only [Act.put, List.setIfInBounds_toArray, List.set_cons_zero, List.set_cons_succ]
        refine wpAnyH_take (i := 5) (oi := ({ dst := some 168, op := Op.fieldAddr 48 (Operand.tmp 167) 0, type := 0, pos := _, after := _, guard := none } : Oper)) (v := ?_) rfl (by kernel_rfl) (by kernel_rfl) (by kernel_rfl) (fun _ _ _ h => h) (Or.inl ⟨by rfl, ?_⟩) (by assumption) ?_
        rotate_left
        · intro w' hSw
          (try dsimp only at hSw)
          first | (go_simp; done) | (go_simp; with_reducible rfl)
        try simp only [Act.put, List.setIfInBounds_toArray, List.set_cons_zero, List.set_cons_succ]
        refine wpAnyH_take (i := 6) (oi := ({ dst := some 169, op := Op.load 25 (Operand.tmp 168), type := 25, pos := _, after := _, guard := none } : Oper)) (v := ?_) rfl (by kernel_rfl) (by kernel_rfl) (by kernel_rfl) (fun _ _ _ h => h) (Or.inl ⟨by rfl, ?_⟩) (by assumption) ?_
        rotate_left
        · intro w' hSw
          (try dsimp only at hSw)
          first | (go_simp; done) | (go_simp; with_reducible rfl)
        try simp only [Act.put, List.setIfInBounds_toArray, List.set_cons_zero, List.set_cons_succ]
        refine wpAnyH_ready (rs := [1]) (by kernel_rfl) (by simp) ?_
        refine AllReadyH.cons (o := ({ dst := some 164, op := Op.call { callee := Callee.value (Operand.func 9), args := #[Operand.tmp 163], argTypes := #[30] }, type := 3, pos := _, after := _, guard := none } : Oper)) rfl (fun K hK => ?_) AllReadyH.nil
        go_simp
        refine Calls.mono (num_any _ _) ?_
        rintro e w7 ⟨rfl, hw7⟩
        rw [hw7]
        clear hw7
        refine hK.out _ _ hHeld (fun hHeld => ?_)
        clear hK K
        try simp only [Act.put, List.setIfInBounds_toArray, List.set_cons_zero, List.set_cons_succ]
        refine wpAnyH_take (i := 2) (oi := ({ dst := some 165, op := Op.binOp BinOp.eql 3 (Operand.tmp 164) (Operand.const (Value.int IntKind.i64 0)) 3, type := 4, pos := _, after := _, guard := none } : Oper)) (v := ?_) rfl (by kernel_rfl) (by kernel_rfl) (by kernel_rfl) (fun _ _ _ h => h) (Or.inl ⟨by rfl, ?_⟩) (by assumption) ?_
        rotate_left
        · intro w' hSw
          (try dsimp only at hSw)
          first | (go_simp; done) | (go_simp; with_reducible rfl)
        try simp only [Act.put, List.setIfInBounds_toArray, List.set_cons_zero, List.set_cons_succ]
        refine wpAnyH_ready (rs := [7]) (by kernel_rfl) (by simp) ?_
        refine AllReadyH.cons (o := ({ dst := some 170, op := Op.call { callee := Callee.value (Operand.func 18), args := #[Operand.tmp 169], argTypes := #[25] }, type := 4, pos := _, after := _, guard := none } : Oper)) rfl (fun K hK => ?_) AllReadyH.nil
        go_simp
        refine Calls.mono (HO.out _ K3.out) ?_
        rintro e w4 ⟨rfl, b4, g4⟩
        have K4 := hid b4
        clear b4
        refine hK.out _ _ g4 (fun hHeld => ?_)
        clear hK K
        try simp only [Act.put, List.setIfInBounds_toArray, List.set_cons_zero, List.set_cons_succ]
        refine wpAnyH_take (i := 8) (oi := ({ dst := some 171, op := Op.binOp BinOp.eql 4 (Operand.tmp 165) (Operand.tmp 170) 4, type := 4, pos := _, after := _, guard := none } : Oper)) (v := ?_) rfl (by kernel_rfl) (by kernel_rfl) (by kernel_rfl) (fun _ _ _ h => h) (Or.inl ⟨by rfl, ?_⟩) (by assumption) ?_
        rotate_left
        · intro w' hSw
          (try dsimp only at hSw)
          first | (go_simp; done) | (go_simp; with_reducible rfl)
        try simp only [Act.put, List.setIfInBounds_toArray, List.set_cons_zero, List.set_cons_succ]
        refine wpAnyH_take (i := 9) (oi := ({ dst := some 172, op := Op.move (Operand.tmp 171), type := 4, pos := _, after := _, guard := none } : Oper)) (v := ?_) rfl (by kernel_rfl) (by kernel_rfl) (by kernel_rfl) (fun _ _ _ h => h) (Or.inl ⟨by rfl, ?_⟩) (by assumption) ?_
        rotate_left
        · intro w' hSw
          (try dsimp only at hSw)
          first | (go_simp; done) | (go_simp; with_reducible rfl)
        try simp only [Act.put, List.setIfInBounds_toArray, List.set_cons_zero, List.set_cons_succ]
        refine wpAnyH_take (i := 10) (oi := ({ dst := some 173, op := Op.move (Operand.tmp 27), type := 30, pos := _, after := _, guard := some (9, true) } : Oper)) (v := ?_) rfl (by kernel_rfl) (by kernel_rfl) (by kernel_rfl) (fun _ _ _ h => h) (Or.inl ⟨by rfl, ?_⟩) (by assumption) ?_
        rotate_left
        · intro w' hSw
          (try dsimp only at hSw)
          first | (go_simp; done) | (go_simp; with_reducible rfl)
        try simp only [Act.put, List.setIfInBounds_toArray, List.set_cons_zero, List.set_cons_succ]
        refine wpAnyH_ready (rs := [11]) (by kernel_rfl) (by simp) ?_
        refine AllReadyH.cons (o := ({ dst := some 174, op := Op.call { callee := Callee.value (Operand.func 9), args := #[Operand.tmp 173], argTypes := #[30] }, type := 3, pos := _, after := _, guard := some (9, true) } : Oper)) rfl (fun K hK => ?_) AllReadyH.nil
        go_simp
        refine Calls.mono (num_any _ _) ?_
        rintro e w7 ⟨rfl, hw7⟩
        rw [hw7]
        clear hw7
        refine hK.out _ _ hHeld (fun hHeld => ?_)
        clear hK K
        try simp only [Act.put, List.setIfInBounds_toArray, List.set_cons_zero, List.set_cons_succ]
        refine wpAnyH_take (i := 12) (oi := ({ dst := some 175, op := Op.binOp BinOp.eql 3 (Operand.tmp 174) (Operand.const (Value.int IntKind.i64 0)) 3, type := 4, pos := _, after := _, guard := some (9, true) } : Oper)) (v := ?_) rfl (by kernel_rfl) (by kernel_rfl) (by kernel_rfl) (fun _ _ _ h => h) (Or.inl ⟨by rfl, ?_⟩) (by assumption) ?_
        rotate_left
        · intro w' hSw
          (try dsimp only at hSw)
          first | (go_simp; done) | (go_simp; with_reducible rfl)
        try simp only [Act.put, List.setIfInBounds_toArray, List.set_cons_zero, List.set_cons_succ]
        refine wpAnyH_take (i := 13) (oi := ({ dst := some 176, op := Op.pick (Operand.tmp 172) (Operand.tmp 175) (Operand.const (Value.bool false)), type := 4, pos := _, after := _, guard := none } : Oper)) (v := ?_) rfl (by kernel_rfl) (by kernel_rfl) (by kernel_rfl) (fun _ _ _ h => h) (Or.inl ⟨by rfl, ?_⟩) (by assumption) ?_
        rotate_left
        · intro w' hSw
          (try dsimp only at hSw)
          first | (go_simp; done) | (go_simp; with_reducible rfl)
        try simp only [Act.put, List.setIfInBounds_toArray, List.set_cons_zero, List.set_cons_succ]
        refine wpAnyH_take (i := 14) (oi := ({ dst := some 177, op := Op.move (Operand.tmp 176), type := 4, pos := _, after := _, guard := none } : Oper)) (v := ?_) rfl (by kernel_rfl) (by kernel_rfl) (by kernel_rfl) (fun _ _ _ h => h) (Or.inl ⟨by rfl, ?_⟩) (by assumption) ?_
        rotate_left
        · intro w' hSw
          (try dsimp only at hSw)
          first | (go_simp; done) | (go_simp; with_reducible rfl)
        try simp only [Act.put, List.setIfInBounds_toArray, List.set_cons_zero, List.set_cons_succ]
        refine wpAnyH_take (i := 15) (oi := ({ dst := some 178, op := Op.move (Operand.tmp 24), type := 29, pos := _, after := _, guard := some (14, true) } : Oper)) (v := ?_) rfl (by kernel_rfl) (by kernel_rfl) (by kernel_rfl) (fun _ _ _ h => h) (Or.inl ⟨by rfl, ?_⟩) (by assumption) ?_
        rotate_left
        · intro w' hSw
          (try dsimp only at hSw)
          first | (go_simp; done) | (go_simp; with_reducible rfl)
        try simp only [Act.put, List.setIfInBounds_toArray, List.set_cons_zero, List.set_cons_succ]
        refine wpAnyH_take (i := 16) (oi := ({ dst := some 179, op := Op.call { callee := Callee.builtin Builtin.len, args := #[Operand.tmp 178], argTypes := #[29] }, type := 3, pos := _, after := _, guard := some (14, true) } : Oper)) (v := ?_) rfl (by kernel_rfl) (by kernel_rfl) (by kernel_rfl) (fun _ _ _ h => h) (Or.inl ⟨by rfl, ?_⟩) (by assumption) ?_
        rotate_left
        · intro w' hSw
          (try dsimp only at hSw)
          first | (go_simp; done) | (go_simp; with_reducible rfl)
        try simp only [Act.put, List.setIfInBounds_toArray, List.set_cons_zero, List.set_cons_succ]
        refine wpAnyH_take (i := 17) (oi := ({ dst := some 180, op := Op.binOp BinOp.eql 3 (Operand.tmp 179) (Operand.const (Value.int IntKind.i64 512)) 3, type := 4, pos := _, after := _, guard := some (14, true) } : Oper)) (v := ?_) rfl (by kernel_rfl) (by kernel_rfl) (by kernel_rfl) (fun _ _ _ h => h) (Or.inl ⟨by rfl, ?_⟩) (by assumption) ?_
        rotate_left
        · intro w' hSw
          (try dsimp only at hSw)
          first | (go_simp; done) | (go_simp; with_reducible rfl)
        try simp only [Act.put, List.setIfInBounds_toArray, List.set_cons_zero, List.set_cons_succ]
        refine wpAnyH_take (i := 18) (oi := ({ dst := some 181, op := Op.move (Operand.tmp 10), type := 26, pos := _, after := _, guard := some (14, true) } : Oper)) (v := ?_) rfl (by kernel_rfl) (by kernel_rfl) (by kernel_rfl) (fun _ _ _ h => h) (Or.inl ⟨by rfl, ?_⟩) (by assumption) ?_
        rotate_left
        · intro w' hSw
          (try dsimp only at hSw)
          first | (go_simp; done) | (go_simp; with_reducible rfl)
        try simp only [Act.put, List.setIfInBounds_toArray, List.set_cons_zero, List.set_cons_succ]
        refine wpAnyH_take (i := 19) (oi := ({ dst := some 182, op := Op.nilCheck (Operand.tmp 181), type := 0, pos := _, after := _, guard := some (14, true) } : Oper)) (v := ?_) rfl (by kernel_rfl) (by kernel_rfl) (by kernel_rfl) (fun _ _ _ h => h) (Or.inl ⟨by rfl, ?_⟩) (by assumption) ?_
        rotate_left
        · intro w' hSw
          (try dsimp only at hSw)
          first | (go_simp; done) | (go_simp; with_reducible rfl)
        try simp only [Act.put, List.setIfInBounds_toArray, List.set_cons_zero, List.set_cons_succ]
        refine wpAnyH_take (i := 20) (oi := ({ dst := some 183, op := Op.fieldAddr 48 (Operand.tmp 182) 0, type := 0, pos := _, after := _, guard := some (14, true) } : Oper)) (v := ?_) rfl (by kernel_rfl) (by kernel_rfl) (by kernel_rfl) (fun _ _ _ h => h) (Or.inl ⟨by rfl, ?_⟩) (by assumption) ?_
        rotate_left
        · intro w' hSw
          (try dsimp only at hSw)
          first | (go_simp; done) | (go_simp; with_reducible rfl)
        try simp only [Act.put, List.setIfInBounds_toArray, List.set_cons_zero, List.set_cons_succ]
        refine wpAnyH_take (i := 21) (oi := ({ dst := some 184, op := Op.load 25 (Operand.tmp 183), type := 25, pos := _, after := _, guard := some (14, true) } : Oper)) (v := ?_) rfl (by kernel_rfl) (by kernel_rfl) (by kernel_rfl) (fun _ _ _ h => h) (Or.inl ⟨by rfl, ?_⟩) (by assumption) ?_
        rotate_left
        · intro w' hSw
          (try dsimp only at hSw)
          first | (go_simp; done) | (go_simp; with_reducible rfl)
        try simp only [Act.put, List.setIfInBounds_toArray, List.set_cons_zero, List.set_cons_succ]
        refine wpAnyH_ready (rs := [22]) (by kernel_rfl) (by simp) ?_
        refine AllReadyH.cons (o := ({ dst := some 185, op := Op.call { callee := Callee.value (Operand.func 18), args := #[Operand.tmp 184], argTypes := #[25] }, type := 4, pos := _, after := _, guard := some (14, true) } : Oper)) rfl (fun K hK => ?_) AllReadyH.nil
        go_simp
        refine Calls.mono (HO.out _ K4.out) ?_
        rintro e w5 ⟨rfl, b5, g5⟩
        have K5 := hid b5
        clear b5
        refine hK.out _ _ g5 (fun hHeld => ?_)
        clear hK K
        try simp only [Act.put, List.setIfInBounds_toArray, List.set_cons_zero, List.set_cons_succ]
        refine wpAnyH_take (i := 23) (oi := ({ dst := some 186, op := Op.binOp BinOp.eql 4 (Operand.tmp 180) (Operand.tmp 185) 4, type := 4, pos := _, after := _, guard := some (14, true) } : Oper)) (v := ?_) rfl (by kernel_rfl) (by kernel_rfl) (by kernel_rfl) (fun _ _ _ h => h) (Or.inl ⟨by rfl, ?_⟩) (by assumption) ?_
        rotate_left
        · intro w' hSw
          (try dsimp only at hSw)
          first | (go_simp; done) | (go_simp; with_reducible rfl)
        try simp only [Act.put, List.setIfInBounds_toArray, List.set_cons_zero, List.set_cons_succ]
        refine wpAnyH_take (i := 24) (oi := ({ dst := some 187, op := Op.pick (Operand.tmp 177) (Operand.tmp 186) (Operand.const (Value.bool false)), type := 4, pos := _, after := _, guard := none } : Oper)) (v := ?_) rfl (by kernel_rfl) (by kernel_rfl) (by kernel_rfl) (fun _ _ _ h => h) (Or.inl ⟨by rfl, ?_⟩) (by assumption) ?_
        rotate_left
        · intro w' hSw
          (try dsimp only at hSw)
          first | (go_simp; done) | (go_simp; with_reducible rfl)
        try simp only [Act.put, List.setIfInBounds_toArray, List.set_cons_zero, List.set_cons_succ]
        refine wpAnyH_take (i := 25) (oi := ({ dst := some 188, op := Op.move (Operand.tmp 187), type := 4, pos := _, after := _, guard := none } : Oper)) (v := ?_) rfl (by kernel_rfl) (by kernel_rfl) (by kernel_rfl) (fun _ _ _ h => h) (Or.inl ⟨by rfl, ?_⟩) (by assumption) ?_
        rotate_left
        · intro w' hSw
          (try dsimp only at hSw)
          first | (go_simp; done) | (go_simp; with_reducible rfl)
        try simp only [Act.put, List.setIfInBounds_toArray, List.set_cons_zero, List.set_cons_succ]
        refine wpAnyH_take (i := 26) (oi := ({ dst := some 189, op := Op.move (Operand.tmp 26), type := 22, pos := _, after := _, guard := some (25, true) } : Oper)) (v := ?_) rfl (by kernel_rfl) (by kernel_rfl) (by kernel_rfl) (fun _ _ _ h => h) (Or.inl ⟨by rfl, ?_⟩) (by assumption) ?_
        rotate_left
        · intro w' hSw
          (try dsimp only at hSw)
          first | (go_simp; done) | (go_simp; with_reducible rfl)
        try simp only [Act.put, List.setIfInBounds_toArray, List.set_cons_zero, List.set_cons_succ]
        refine wpAnyH_take (i := 27) (oi := ({ dst := some 190, op := Op.call { callee := Callee.builtin Builtin.len, args := #[Operand.tmp 189], argTypes := #[22] }, type := 3, pos := _, after := _, guard := some (25, true) } : Oper)) (v := ?_) rfl (by kernel_rfl) (by kernel_rfl) (by kernel_rfl) (fun _ _ _ h => h) (Or.inl ⟨by rfl, ?_⟩) (by assumption) ?_
        rotate_left
        · intro w' hSw
          (try dsimp only at hSw)
          first | (go_simp; done) | (go_simp; with_reducible rfl)
        try simp only [Act.put, List.setIfInBounds_toArray, List.set_cons_zero, List.set_cons_succ]
        refine wpAnyH_take (i := 28) (oi := ({ dst := some 191, op := Op.binOp BinOp.gtr 3 (Operand.tmp 190) (Operand.const (Value.int IntKind.i64 0)) 3, type := 4, pos := _, after := _, guard := some (25, true) } : Oper)) (v := ?_) rfl (by kernel_rfl) (by kernel_rfl) (by kernel_rfl) (fun _ _ _ h => h) (Or.inl ⟨by rfl, ?_⟩) (by assumption) ?_
        rotate_left
        · intro w' hSw
          (try dsimp only at hSw)
          first | (go_simp; done) | (go_simp; with_reducible rfl)
        try simp only [Act.put, List.setIfInBounds_toArray, List.set_cons_zero, List.set_cons_succ]
        refine wpAnyH_take (i := 29) (oi := ({ dst := some 192, op := Op.move (Operand.tmp 191), type := 4, pos := _, after := _, guard := some (25, true) } : Oper)) (v := ?_) rfl (by kernel_rfl) (by kernel_rfl) (by kernel_rfl) (fun _ _ _ h => h) (Or.inl ⟨by rfl, ?_⟩) (by assumption) ?_
        rotate_left
        · intro w' hSw
          (try dsimp only at hSw)
          first | (go_simp; done) | (go_simp; with_reducible rfl)
        try simp only [Act.put, List.setIfInBounds_toArray, List.set_cons_zero, List.set_cons_succ]
        refine wpAnyH_take (i := 30) (oi := ({ dst := some 193, op := Op.move (Operand.tmp 10), type := 26, pos := _, after := _, guard := some (29, false) } : Oper)) (v := undef) rfl (by kernel_rfl) (by kernel_rfl) (by kernel_rfl) (fun _ _ _ h => h) (Or.inr ⟨by rfl, rfl⟩) (by assumption) ?_
        try simp only [Act.put, List.setIfInBounds_toArray, List.set_cons_zero, List.set_cons_succ]
        refine wpAnyH_take (i := 31) (oi := ({ dst := some 194, op := Op.nilCheck (Operand.tmp 193), type := 0, pos := _, after := _, guard := some (29, false) } : Oper)) (v := undef) rfl (by kernel_rfl) (by kernel_rfl) (by kernel_rfl) (fun _ _ _ h => h) (Or.inr ⟨by rfl, rfl⟩) (by assumption) ?_
        try simp only [Act.put, List.setIfInBounds_toArray, List.set_cons_zero, List.set_cons_succ]
        refine wpAnyH_take (i := 32) (oi := ({ dst := some 195, op := Op.fieldAddr 48 (Operand.tmp 194) 0, type := 0, pos := _, after := _, guard := some (29, false) } : Oper)) (v := undef) rfl (by kernel_rfl) (by kernel_rfl) (by kernel_rfl) (fun _ _ _ h => h) (Or.inr ⟨by rfl, rfl⟩) (by assumption) ?_
        try simp only [Act.put, List.setIfInBounds_toArray, List.set_cons_zero, List.set_cons_succ]
        refine wpAnyH_take (i := 33) (oi := ({ dst := some 196, op := Op.load 25 (Operand.tmp 195), type := 25, pos := _, after := _, guard := some (29, false) } : Oper)) (v := undef) rfl (by kernel_rfl) (by kernel_rfl) (by kernel_rfl) (fun _ _ _ h => h) (Or.inr ⟨by rfl, rfl⟩) (by assumption) ?_
        try simp only [Act.put, List.setIfInBounds_toArray, List.set_cons_zero, List.set_cons_succ]
        refine wpAnyH_take (i := 34) (oi := ({ dst := some 197, op := Op.call { callee := Callee.value (Operand.func 18), args := #[Operand.tmp 196], argTypes := #[25] }, type := 4, pos := _, after := _, guard := some (29, false) } : Oper)) (v := undef) rfl (by kernel_rfl) (by kernel_rfl) (by kernel_rfl) (fun _ _ _ h => h) (Or.inr ⟨by rfl, rfl⟩) (by assumption) ?_
        try simp only [Act.put, List.setIfInBounds_toArray, List.set_cons_zero, List.set_cons_succ]
        refine wpAnyH_take (i := 35) (oi := ({ dst := some 198, op := Op.unOp UnOp.not 4 (Operand.tmp 197), type := 4, pos := _, after := _, guard := some (29, false) } : Oper)) (v := undef) rfl (by kernel_rfl) (by kernel_rfl) (by kernel_rfl) (fun _ _ _ h => h) (Or.inr ⟨by rfl, rfl⟩) (by assumption) ?_
        try simp only [Act.put, List.setIfInBounds_toArray, List.set_cons_zero, List.set_cons_succ]
        refine wpAnyH_take (i := 36) (oi := ({ dst := some 199, op := Op.pick (Operand.tmp 192) (Operand.const (Value.bool true)) (Operand.tmp 198), type := 4, pos := _, after := _, guard := some (25, true) } : Oper)) (v := ?_) rfl (by kernel_rfl) (by kernel_rfl) (by kernel_rfl) (fun _ _ _ h => h) (Or.inl ⟨by rfl, ?_⟩) (by assumption) ?_
        rotate_left
        · intro w' hSw
          (try dsimp only at hSw)
          first | (go_simp; done) | (go_simp; with_reducible rfl)
        try simp only [Act.put, List.setIfInBounds_toArray, List.set_cons_zero, List.set_cons_succ]
        refine wpAnyH_take (i := 37) (oi := ({ dst := some 200, op := Op.pick (Operand.tmp 188) (Operand.tmp 199) (Operand.const (Value.bool false)), type := 4, pos := _, after := _, guard := none } : Oper)) (v := ?_) rfl (by kernel_rfl) (by kernel_rfl) (by kernel_rfl) (fun _ _ _ h => h) (Or.inl ⟨by rfl, ?_⟩) (by assumption) ?_
        rotate_left
        · intro w' hSw
          (try dsimp only at hSw)
          first | (go_simp; done) | (go_simp; with_reducible rfl)
        try simp only [Act.put, List.setIfInBounds_toArray, List.set_cons_zero, List.set_cons_succ]
        refine wpAnyH_take (i := 38) (oi := ({ dst := some 6, op := Op.assign (Operand.tmp 200), type := 4, pos := _, after := _, guard := none } : Oper)) (v := ?_) rfl (by kernel_rfl) (by kernel_rfl) (by kernel_rfl) (fun _ _ _ h => h) (Or.inl ⟨by rfl, ?_⟩) (by assumption) ?_
        rotate_left
        · intro w' hSw
          (try dsimp only at hSw)
          first | (go_simp; done) | (go_simp; with_reducible rfl)
        try simp only [Act.put, List.setIfInBounds_toArray, List.set_cons_zero, List.set_cons_succ]
        refine wpAnyH_done (by kernel_rfl) ?_ _
        go_wp2
        go_ret
        exact ⟨rfl, HF.out _ K5.out⟩
      · have hC : rdC true nb 0 = 24 := by unfold rdC; rw [if_pos rfl]
        rw [hC] at HR; simp only [show ¬ ((24 : Int) = 0) by decide, ↓reduceIte] at HR
        have hpos := hits_pos l 24 0
        generalize hitN l 24 0 = h1 at *
        generalize missN l 24 0 = h2 at *
        go_wp2_with fail
        refine Calls.mono HR.out ?_
        rintro q w2 ⟨al, cp1, Z, rfl, so2, fr⟩
        have HH := hid (so2.held rhi)
        have SO2 := hid so2
        generalize l = l2 at *
        clear so2 fr HR
        go_wp2_with fail
        refine Calls.mono HH.out ?_
        rintro q w3 ⟨ah, ch, rfl, rH, b3⟩
        have so3 := SO2.out.below b3
        have g0 := so3.disk.1
        have K3 : Hid (Below w3.heap.size w3 w3.drew) := (Below.refl _ _).drew
        have HF : Hid (∀ wt, Below w3.heap.size w3 wt → Below w.heap.size w wt) := fun wt hb => so3.facts.2.2.2.2.2.trans (hb.mono so3.facts.2.2.2.2.1)
        have HO : Hid (∀ wt, Below w3.heap.size w3 wt → Calls Try.prog 18 #[.pointer (some ⟨p, 0, none⟩)] wt fun q w' => q = .returned (.bool false) ∧ Below w3.heap.size w3 w' ∧ w'.cell? ⟨c, 0, none⟩ = some (.pointer (some ⟨p, 0, none⟩))) := fun wt hb => by
          have sot := so3.below hb
          refine Calls.mono sot.on ?_
          rintro q w' ⟨rfl, b'⟩
          exact ⟨rfl, hb.trans (b'.mono hb.size), (sot.below b').disk.1⟩
        clear rH b3 HH SO2 so3 HSo
        generalize l2.length = ll at *
        by_cases hll : 0 < ll
        · have hl1 : decide ((0 : Int) < (ll : Int)) = true := by simp; omega
          have hl2 : decide (0 < ll) = true := by simp; omega
          clear hll
          go_wp2_with fail
          refine wp_region_held_drew (S := fun w' => w'.cell? ⟨c, 0, none⟩ = some (.pointer (some ⟨p, 0, none⟩))) (by kernel_rfl) g0 (fun hHeld => ?_)
          refine wpAnyH_take (i := 0) (oi := ({ dst := some 163, op := Op.move (Operand.tmp 25), type := 30, pos := _, after := _, guard := none } : Oper)) (v := ?_) rfl (by kernel_rfl) (by kernel_rfl) (by kernel_rfl) (fun _ _ _ h => h) (Or.inl ⟨by rfl, ?_⟩) (by assumption) ?_
          rotate_left
          · intro w' hSw
            (try dsimp only at hSw)
            first | (go_simp; done) | (go_simp; with_reducible rfl)
          try simp only [Act.put, List.setIfInBounds_toArray, List.set_cons_zero, List.set_cons_succ]
          refine wpAnyH_take (i := 3) (oi := ({ dst := some 166, op := Op.move (Operand.tmp 10), type := 26, pos := _, after := _, guard := none } : Oper)) (v := ?_) rfl (by kernel_rfl) (by kernel_rfl) (by kernel_rfl) (fun _ _ _ h => h) (Or.inl ⟨by rfl, ?_⟩) (by assumption) ?_
          rotate_left
          · intro w' hSw
            (try dsimp only at hSw)
            first | (go_simp; done) | (go_simp; with_reducible rfl)
          try simp only [Act.put, List.setIfInBounds_toArray, List.set_cons_zero, List.set_cons_succ]
          refine wpAnyH_take (i := 4) (oi := ({ dst := some 167, op := Op.nilCheck (Operand.tmp 166), type := 0, pos := _, after := _, guard := none } : Oper)) (v := ?_) rfl (by kernel_rfl) (by kernel_rfl) (by kernel_rfl) (fun _ _ _ h => h) (Or.inl ⟨by rfl, ?_⟩) (by assumption) ?_
          rotate_left
          · intro w' hSw
            (try dsimp only at hSw)
            first | (go_simp; done) | (go_simp; with_reducible rfl)
          try simp only [Act.put, List.setIfInBounds_toArray, List.set_cons_zero, List.set_cons_succ]
          refine wpAnyH_take (i := 5) (oi := ({ dst := some 168, op := Op.fieldAddr 48 (Operand.tmp 167) 0, type := 0, pos := _, after := _, guard := none } : Oper)) (v := ?_) rfl (by kernel_rfl) (by kernel_rfl) (by kernel_rfl) (fun _ _ _ h => h) (Or.inl ⟨by rfl, ?_⟩) (by assumption) ?_
          rotate_left
          · intro w' hSw
            (try dsimp only at hSw)
            first | (go_simp; done) | (go_simp; with_reducible rfl)
          try simp only [Act.put, List.setIfInBounds_toArray, List.set_cons_zero, List.set_cons_succ]
          refine wpAnyH_take (i := 6) (oi := ({ dst := some 169, op := Op.load 25 (Operand.tmp 168), type := 25, pos := _, after := _, guard := none } : Oper)) (v := ?_) rfl (by kernel_rfl) (by kernel_rfl) (by kernel_rfl) (fun _ _ _ h => h) (Or.inl ⟨by rfl, ?_⟩) (by assumption) ?_
          rotate_left
          · intro w' hSw
            (try dsimp only at hSw)
            first | (go_simp; done) | (go_simp; with_reducible rfl)
          try simp only [Act.put, List.setIfInBounds_toArray, List.set_cons_zero, List.set_cons_succ]
          refine wpAnyH_ready (rs := [1]) (by kernel_rfl) (by simp) ?_
          refine AllReadyH.cons (o := ({ dst := some 164, op := Op.call { callee := Callee.value (Operand.func 9), args := #[Operand.tmp 163], argTypes := #[30] }, type := 3, pos := _, after := _, guard := none } : Oper)) rfl (fun K hK => ?_) AllReadyH.nil
          go_simp
          refine Calls.mono (num_any _ _) ?_
          rintro e w7 ⟨rfl, hw7⟩
          rw [hw7]
          clear hw7
          refine hK.out _ _ hHeld (fun hHeld => ?_)
          clear hK K
          try simp only [Act.put, List.setIfInBounds_toArray, List.set_cons_zero, List.set_cons_succ]
          refine wpAnyH_take (i := 2) (oi := ({ dst := some 165, op := Op.binOp BinOp.eql 3 (Operand.tmp 164) (Operand.const (Value.int IntKind.i64 0)) 3, type := 4, pos := _, after := _, guard := none } : Oper)) (v := ?_) rfl (by kernel_rfl) (by kernel_rfl) (by kernel_rfl) (fun _ _ _ h => h) (Or.inl ⟨by rfl, ?_⟩) (by assumption) ?_
          rotate_left
          · intro w' hSw
            (try dsimp only at hSw)
            first | (go_simp; done) | (go_simp; with_reducible rfl)
          try simp only [Act.put, List.setIfInBounds_toArray, List.set_cons_zero, List.set_cons_succ]
          refine wpAnyH_ready (rs := [7]) (by kernel_rfl) (by simp) ?_
          refine AllReadyH.cons (o := ({ dst := some 170, op := Op.call { callee := Callee.value (Operand.func 18), args := #[Operand.tmp 169], argTypes := #[25] }, type := 4, pos := _, after := _, guard := none } : Oper)) rfl (fun K hK => ?_) AllReadyH.nil
          go_simp
          refine Calls.mono (HO.out _ K3.out) ?_
          rintro e w4 ⟨rfl, b4, g4⟩
          have K4 := hid b4
          clear b4
          refine hK.out _ _ g4 (fun hHeld => ?_)
          clear hK K
          try simp only [Act.put, List.setIfInBounds_toArray, List.set_cons_zero, List.set_cons_succ]
          refine wpAnyH_take (i := 8) (oi := ({ dst := some 171, op := Op.binOp BinOp.eql 4 (Operand.tmp 165) (Operand.tmp 170) 4, type := 4, pos := _, after := _, guard := none } : Oper)) (v := ?_) rfl (by kernel_rfl) (by kernel_rfl) (by kernel_rfl) (fun _ _ _ h => h) (Or.inl ⟨by rfl, ?_⟩) (by assumption) ?_
          rotate_left
          · intro w' hSw
            (try dsimp only at hSw)
            first | (go_simp; done) | (go_simp; with_reducible rfl)
          try simp only [Act.put, List.setIfInBounds_toArray, List.set_cons_zero, List.set_cons_succ]
          refine wpAnyH_take (i := 9) (oi := ({ dst := some 172, op := Op.move (Operand.tmp 171), type := 4, pos := _, after := _, guard := none } : Oper)) (v := ?_) rfl (by kernel_rfl) (by kernel_rfl) (by kernel_rfl) (fun _ _ _ h => h) (Or.inl ⟨by rfl, ?_⟩) (by assumption) ?_
          rotate_left
          · intro w' hSw
            (try dsimp only at hSw)
            first | (go_simp; done) | (go_simp; with_reducible rfl)
          try simp only [Act.put, List.setIfInBounds_toArray, List.set_cons_zero, List.set_cons_succ]
          refine wpAnyH_take (i := 10) (oi := ({ dst := some 173, op := Op.move (Operand.tmp 27), type := 30, pos := _, after := _, guard := some (9, true) } : Oper)) (v := ?_) rfl (by kernel_rfl) (by kernel_rfl) (by kernel_rfl) (fun _ _ _ h => h) (Or.inl ⟨by rfl, ?_⟩) (by assumption) ?_
          rotate_left
          · intro w' hSw
            (try dsimp only at hSw)
            first | (go_simp; done) | (go_simp; with_reducible rfl)
          try simp only [Act.put, List.setIfInBounds_toArray, List.set_cons_zero, List.set_cons_succ]
          refine wpAnyH_ready (rs := [11]) (by kernel_rfl) (by simp) ?_
          refine AllReadyH.cons (o := ({ dst := some 174, op := Op.call { callee := Callee.value (Operand.func 9), args := #[Operand.tmp 173], argTypes := #[30] }, type := 3, pos := _, after := _, guard := some (9, true) } : Oper)) rfl (fun K hK => ?_) AllReadyH.nil
          go_simp
          refine Calls.mono (num_any _ _) ?_
          rintro e w7 ⟨rfl, hw7⟩
          rw [hw7]
          clear hw7
          refine hK.out _ _ hHeld (fun hHeld => ?_)
          clear hK K
          try simp only [Act.put, List.setIfInBounds_toArray, List.set_cons_zero, List.set_cons_succ]
          refine wpAnyH_take (i := 12) (oi := ({ dst := some 175, op := Op.binOp BinOp.eql 3 (Operand.tmp 174) (Operand.const (Value.int IntKind.i64 0)) 3, type := 4, pos := _, after := _, guard := some (9, true) } : Oper)) (v := ?_) rfl (by kernel_rfl) (by kernel_rfl) (by kernel_rfl) (fun _ _ _ h => h) (Or.inl ⟨by rfl, ?_⟩) (by assumption) ?_
          rotate_left
          · intro w' hSw
            (try dsimp only at hSw)
            first | (go_simp; done) | (go_simp; with_reducible rfl)
          try simp only [Act.put, List.setIfInBounds_toArray, List.set_cons_zero, List.set_cons_succ]
          refine wpAnyH_take (i := 13) (oi := ({ dst := some 176, op := Op.pick (Operand.tmp 172) (Operand.tmp 175) (Operand.const (Value.bool false)), type := 4, pos := _, after := _, guard := none } : Oper)) (v := ?_) rfl (by kernel_rfl) (by kernel_rfl) (by kernel_rfl) (fun _ _ _ h => h) (Or.inl ⟨by rfl, ?_⟩) (by assumption) ?_
          rotate_left
          · intro w' hSw
            (try dsimp only at hSw)
            first | (go_simp; done) | (go_simp; with_reducible rfl)
          try simp only [Act.put, List.setIfInBounds_toArray, List.set_cons_zero, List.set_cons_succ]
          refine wpAnyH_take (i := 14) (oi := ({ dst := some 177, op := Op.move (Operand.tmp 176), type := 4, pos := _, after := _, guard := none } : Oper)) (v := ?_) rfl (by kernel_rfl) (by kernel_rfl) (by kernel_rfl) (fun _ _ _ h => h) (Or.inl ⟨by rfl, ?_⟩) (by assumption) ?_
          rotate_left
          · intro w' hSw
            (try dsimp only at hSw)
            first | (go_simp; done) | (go_simp; with_reducible rfl)
          try simp only [Act.put, List.setIfInBounds_toArray, List.set_cons_zero, List.set_cons_succ]
          refine wpAnyH_take (i := 15) (oi := ({ dst := some 178, op := Op.move (Operand.tmp 24), type := 29, pos := _, after := _, guard := some (14, true) } : Oper)) (v := ?_) rfl (by kernel_rfl) (by kernel_rfl) (by kernel_rfl) (fun _ _ _ h => h) (Or.inl ⟨by rfl, ?_⟩) (by assumption) ?_
          rotate_left
          · intro w' hSw
            (try dsimp only at hSw)
            first | (go_simp; done) | (go_simp; with_reducible rfl)
          try simp only [Act.put, List.setIfInBounds_toArray, List.set_cons_zero, List.set_cons_succ]
          refine wpAnyH_take (i := 16) (oi := ({ dst := some 179, op := Op.call { callee := Callee.builtin Builtin.len, args := #[Operand.tmp 178], argTypes := #[29] }, type := 3, pos := _, after := _, guard := some (14, true) } : Oper)) (v := ?_) rfl (by kernel_rfl) (by kernel_rfl) (by kernel_rfl) (fun _ _ _ h => h) (Or.inl ⟨by rfl, ?_⟩) (by assumption) ?_
          rotate_left
          · intro w' hSw
            (try dsimp only at hSw)
            first | (go_simp; done) | (go_simp; with_reducible rfl)
          try simp only [Act.put, List.setIfInBounds_toArray, List.set_cons_zero, List.set_cons_succ]
          refine wpAnyH_take (i := 17) (oi := ({ dst := some 180, op := Op.binOp BinOp.eql 3 (Operand.tmp 179) (Operand.const (Value.int IntKind.i64 512)) 3, type := 4, pos := _, after := _, guard := some (14, true) } : Oper)) (v := ?_) rfl (by kernel_rfl) (by kernel_rfl) (by kernel_rfl) (fun _ _ _ h => h) (Or.inl ⟨by rfl, ?_⟩) (by assumption) ?_
          rotate_left
          · intro w' hSw
            (try dsimp only at hSw)
            first | (go_simp; done) | (go_simp; with_reducible rfl)
          try simp only [Act.put, List.setIfInBounds_toArray, List.set_cons_zero, List.set_cons_succ]
          refine wpAnyH_take (i := 18) (oi := ({ dst := some 181, op := Op.move (Operand.tmp 10), type := 26, pos := _, after := _, guard := some (14, true) } : Oper)) (v := ?_) rfl (by kernel_rfl) (by kernel_rfl) (by kernel_rfl) (fun _ _ _ h => h) (Or.inl ⟨by rfl, ?_⟩) (by assumption) ?_
          rotate_left
          · intro w' hSw
            (try dsimp only at hSw)
            first | (go_simp; done) | (go_simp; with_reducible rfl)
          try simp only [Act.put, List.setIfInBounds_toArray, List.set_cons_zero, List.set_cons_succ]
          refine wpAnyH_take (i := 19) (oi := ({ dst := some 182, op := Op.nilCheck (Operand.tmp 181), type := 0, pos := _, after := _, guard := some (14, true) } : Oper)) (v := ?_) rfl (by kernel_rfl) (by kernel_rfl) (by kernel_rfl) (fun _ _ _ h => h) (Or.inl ⟨by rfl, ?_⟩) (by assumption) ?_
          rotate_left
          · intro w' hSw
            (try dsimp only at hSw)
            first | (go_simp; done) | (go_simp; with_reducible rfl)
          try simp only [Act.put, List.setIfInBounds_toArray, List.set_cons_zero, List.set_cons_succ]
          refine wpAnyH_take (i := 20) (oi := ({ dst := some 183, op := Op.fieldAddr 48 (Operand.tmp 182) 0, type := 0, pos := _, after := _, guard := some (14, true) } : Oper)) (v := ?_) rfl (by kernel_rfl) (by kernel_rfl) (by kernel_rfl) (fun _ _ _ h => h) (Or.inl ⟨by rfl, ?_⟩) (by assumption) ?_
          rotate_left
          · intro w' hSw
            (try dsimp only at hSw)
            first | (go_simp; done) | (go_simp; with_reducible rfl)
          try simp only [Act.put, List.setIfInBounds_toArray, List.set_cons_zero, List.set_cons_succ]
          refine wpAnyH_take (i := 21) (oi := ({ dst := some 184, op := Op.load 25 (Operand.tmp 183), type := 25, pos := _, after := _, guard := some (14, true) } : Oper)) (v := ?_) rfl (by kernel_rfl) (by kernel_rfl) (by kernel_rfl) (fun _ _ _ h => h) (Or.inl ⟨by rfl, ?_⟩) (by assumption) ?_
          rotate_left
          · intro w' hSw
            (try dsimp only at hSw)
            first | (go_simp; done) | (go_simp; with_reducible rfl)
          try simp only [Act.put, List.setIfInBounds_toArray, List.set_cons_zero, List.set_cons_succ]
          refine wpAnyH_ready (rs := [22]) (by kernel_rfl) (by simp) ?_
          refine AllReadyH.cons (o := ({ dst := some 185, op := Op.call { callee := Callee.value (Operand.func 18), args := #[Operand.tmp 184], argTypes := #[25] }, type := 4, pos := _, after := _, guard := some (14, true) } : Oper)) rfl (fun K hK => ?_) AllReadyH.nil
          go_simp
          refine Calls.mono (HO.out _ K4.out) ?_
          rintro e w5 ⟨rfl, b5, g5⟩
          have K5 := hid b5
          clear b5
          refine hK.out _ _ g5 (fun hHeld => ?_)
          clear hK K
          try simp only [Act.put, List.setIfInBounds_toArray, List.set_cons_zero, List.set_cons_succ]
          refine wpAnyH_take (i := 23) (oi := ({ dst := some 186, op := Op.binOp BinOp.eql 4 (Operand.tmp 180) (Operand.tmp 185) 4, type := 4, pos := _, after := _, guard := some (14, true) } : Oper)) (v := ?_) rfl (by kernel_rfl) (by kernel_rfl) (by kernel_rfl) (fun _ _ _ h => h) (Or.inl ⟨by rfl, ?_⟩) (by assumption) ?_
          rotate_left
          · intro w' hSw
            (try dsimp only at hSw)
            first | (go_simp; done) | (go_simp; with_reducible rfl)
          try simp only [Act.put, List.setIfInBounds_toArray, List.set_cons_zero, List.set_cons_succ]
          refine wpAnyH_take (i := 24) (oi := ({ dst := some 187, op := Op.pick (Operand.tmp 177) (Operand.tmp 186) (Operand.const (Value.bool false)), type := 4, pos := _, after := _, guard := none } : Oper)) (v := ?_) rfl (by kernel_rfl) (by kernel_rfl) (by kernel_rfl) (fun _ _ _ h => h) (Or.inl ⟨by rfl, ?_⟩) (by assumption) ?_
          rotate_left
          · intro w' hSw
            (try dsimp only at hSw)
            first | (go_simp; done) | (go_simp; with_reducible rfl)
          try simp only [Act.put, List.setIfInBounds_toArray, List.set_cons_zero, List.set_cons_succ]
          refine wpAnyH_take (i := 25) (oi := ({ dst := some 188, op := Op.move (Operand.tmp 187), type := 4, pos := _, after := _, guard := none } : Oper)) (v := ?_) rfl (by kernel_rfl) (by kernel_rfl) (by kernel_rfl) (fun _ _ _ h => h) (Or.inl ⟨by rfl, ?_⟩) (by assumption) ?_
          rotate_left
          · intro w' hSw
            (try dsimp only at hSw)
            first | (go_simp; done) | (go_simp; with_reducible rfl)
          try simp only [Act.put, List.setIfInBounds_toArray, List.set_cons_zero, List.set_cons_succ]
          refine wpAnyH_take (i := 26) (oi := ({ dst := some 189, op := Op.move (Operand.tmp 26), type := 22, pos := _, after := _, guard := some (25, true) } : Oper)) (v := ?_) rfl (by kernel_rfl) (by kernel_rfl) (by kernel_rfl) (fun _ _ _ h => h) (Or.inl ⟨by rfl, ?_⟩) (by assumption) ?_
          rotate_left
          · intro w' hSw
            (try dsimp only at hSw)
            first | (go_simp; done) | (go_simp; with_reducible rfl)
          try simp only [Act.put, List.setIfInBounds_toArray, List.set_cons_zero, List.set_cons_succ]
          refine wpAnyH_take (i := 27) (oi := ({ dst := some 190, op := Op.call { callee := Callee.builtin Builtin.len, args := #[Operand.tmp 189], argTypes := #[22] }, type := 3, pos := _, after := _, guard := some (25, true) } : Oper)) (v := ?_) rfl (by kernel_rfl) (by kernel_rfl) (by kernel_rfl) (fun _ _ _ h => h) (Or.inl ⟨by rfl, ?_⟩) (by assumption) ?_
          rotate_left
          · intro w' hSw
            (try dsimp only at hSw)
            first | (go_simp; done) | (go_simp; with_reducible rfl)
          try simp only [Act.put, List.setIfInBounds_toArray, List.set_cons_zero, List.set_cons_succ]
          refine wpAnyH_take (i := 28) (oi := ({ dst := some 191, op := Op.binOp BinOp.gtr 3 (Operand.tmp 190) (Operand.const (Value.int IntKind.i64 0)) 3, type := 4, pos := _, after := _, guard := some (25, true) } : Oper)) (v := ?_) rfl (by kernel_rfl) (by kernel_rfl) (by kernel_rfl) (fun _ _ _ h => h) (Or.inl ⟨by rfl, ?_⟩) (by assumption) ?_
          rotate_left
          · intro w' hSw
            (try dsimp only at hSw)
            first | (go_simp; done) | (go_simp; with_reducible rfl)
          try simp only [Act.put, List.setIfInBounds_toArray, List.set_cons_zero, List.set_cons_succ]
          refine wpAnyH_take (i := 29) (oi := ({ dst := some 192, op := Op.move (Operand.tmp 191), type := 4, pos := _, after := _, guard := some (25, true) } : Oper)) (v := ?_) rfl (by kernel_rfl) (by kernel_rfl) (by kernel_rfl) (fun _ _ _ h => h) (Or.inl ⟨by rfl, ?_⟩) (by assumption) ?_
          rotate_left
          · intro w' hSw
            (try dsimp only at hSw)
            first | (go_simp; done) | (go_simp; with_reducible rfl)
          try simp only [Act.put, List.setIfInBounds_toArray, List.set_cons_zero, List.set_cons_succ]
          refine wpAnyH_take (i := 30) (oi := ({ dst := some 193, op := Op.move (Operand.tmp 10), type := 26, pos := _, after := _, guard := some (29, false) } : Oper)) (v := undef) rfl (by kernel_rfl) (by kernel_rfl) (by kernel_rfl) (fun _ _ _ h => h) (Or.inr ⟨by rfl, rfl⟩) (by assumption) ?_
          try simp only [Act.put, List.setIfInBounds_toArray, List.set_cons_zero, List.set_cons_succ]
          refine wpAnyH_take (i := 31) (oi := ({ dst := some 194, op := Op.nilCheck (Operand.tmp 193), type := 0, pos := _, after := _, guard := some (29, false) } : Oper)) (v := undef) rfl (by kernel_rfl) (by kernel_rfl) (by kernel_rfl) (fun _ _ _ h => h) (Or.inr ⟨by rfl, rfl⟩) (by assumption) ?_
          try simp only [Act.put, List.setIfInBounds_toArray, List.set_cons_zero, List.set_cons_succ]
          refine wpAnyH_take (i := 32) (oi := ({ dst := some 195, op := Op.fieldAddr 48 (Operand.tmp 194) 0, type := 0, pos := _, after := _, guard := some (29, false) } : Oper)) (v := undef) rfl (by kernel_rfl) (by kernel_rfl) (by kernel_rfl) (fun _ _ _ h => h) (Or.inr ⟨by rfl, rfl⟩) (by assumption) ?_
          try simp only [Act.put, List.setIfInBounds_toArray, List.set_cons_zero, List.set_cons_succ]
          refine wpAnyH_take (i := 33) (oi := ({ dst := some 196, op := Op.load 25 (Operand.tmp 195), type := 25, pos := _, after := _, guard := some (29, false) } : Oper)) (v := undef) rfl (by kernel_rfl) (by kernel_rfl) (by kernel_rfl) (fun _ _ _ h => h) (Or.inr ⟨by rfl, rfl⟩) (by assumption) ?_
          try simp only [Act.put, List.setIfInBounds_toArray, List.set_cons_zero, List.set_cons_succ]
          refine wpAnyH_take (i := 34) (oi := ({ dst := some 197, op := Op.call { callee := Callee.value (Operand.func 18), args := #[Operand.tmp 196], argTypes := #[25] }, type := 4, pos := _, after := _, guard := some (29, false) } : Oper)) (v := undef) rfl (by kernel_rfl) (by kernel_rfl) (by kernel_rfl) (fun _ _ _ h => h) (Or.inr ⟨by rfl, rfl⟩) (by assumption) ?_
          try simp only [Act.put, List.setIfInBounds_toArray, List.set_cons_zero, List.set_cons_succ]
          refine wpAnyH_take (i := 35) (oi := ({ dst := some 198, op := Op.unOp UnOp.not 4 (Operand.tmp 197), type := 4, pos := _, after := _, guard := some (29, false) } : Oper)) (v := undef) rfl (by kernel_rfl) (by kernel_rfl) (by kernel_rfl) (fun _ _ _ h => h) (Or.inr ⟨by rfl, rfl⟩) (by assumption) ?_
          try simp only [Act.put, List.setIfInBounds_toArray, List.set_cons_zero, List.set_cons_succ]
          refine wpAnyH_take (i := 36) (oi := ({ dst := some 199, op := Op.pick (Operand.tmp 192) (Operand.const (Value.bool true)) (Operand.tmp 198), type := 4, pos := _, after := _, guard := some (25, true) } : Oper)) (v := ?_) rfl (by kernel_rfl) (by kernel_rfl) (by kernel_rfl) (fun _ _ _ h => h) (Or.inl ⟨by rfl, ?_⟩) (by assumption) ?_
          rotate_left
          · intro w' hSw
            (try dsimp only at hSw)
            first | (go_simp; done) | (go_simp; with_reducible rfl)
          try simp only [Act.put, List.setIfInBounds_toArray, List.set_cons_zero, List.set_cons_succ]
          refine wpAnyH_take (i := 37) (oi := ({ dst := some 200, op := Op.pick (Operand.tmp 188) (Operand.tmp 199) (Operand.const (Value.bool false)), type := 4, pos := _, after := _, guard := none } : Oper)) (v := ?_) rfl (by kernel_rfl) (by kernel_rfl) (by kernel_rfl) (fun _ _ _ h => h) (Or.inl ⟨by rfl, ?_⟩) (by assumption) ?_
          rotate_left
          · intro w' hSw
            (try dsimp only at hSw)
            first | (go_simp; done) | (go_simp; with_reducible rfl)
          try simp only [Act.put, List.setIfInBounds_toArray, List.set_cons_zero, List.set_cons_succ]
          refine wpAnyH_take (i := 38) (oi := ({ dst := some 6, op := Op.assign (Operand.tmp 200), type := 4, pos := _, after := _, guard := none } : Oper)) (v := ?_) rfl (by kernel_rfl) (by kernel_rfl) (by kernel_rfl) (fun _ _ _ h => h) (Or.inl ⟨by rfl, ?_⟩) (by assumption) ?_
          rotate_left
          · intro w' hSw
            (try dsimp only at hSw)
            first | (go_simp; done) | (go_simp; with_reducible rfl)
          try simp only [Act.put, List.setIfInBounds_toArray, List.set_cons_zero, List.set_cons_succ]
          refine wpAnyH_done (by kernel_rfl) ?_ _
          go_wp2
          go_ret
          exact ⟨rfl, HF.out _ K5.out⟩
        · have hl1 : decide ((0 : Int) < (ll : Int)) = false := by simp; omega
          have hl2 : decide (0 < ll) = false := by simp; omega
          clear hll
          go_wp2_with fail
          go_region_held3 (fun w' => w'.cell? ⟨c, 0, none⟩ = some (.pointer (some ⟨p, 0, none⟩))) (first | assumption | go_keep)
            ((first
              | (go_at_call 9; refine Calls.mono (num_any _ _) ?_; rintro e w7 ⟨rfl, hw7⟩; rw [hw7]; clear hw7)
              | (go_at_call 18; refine Calls.mono (HO.out _ K5.out) ?_; rintro e w6 ⟨rfl, b6, g6⟩
                 have K6 := hid b6
                 clear b6)
              | (go_at_call 18; refine Calls.mono (HO.out _ K4.out) ?_; rintro e w5 ⟨rfl, b5, g5⟩
                 have K5 := hid b5
                 clear b5)
              | (go_at_call 18; refine Calls.mono (HO.out _ K3.out) ?_; rintro e w4 ⟨rfl, b4, g4⟩
                 have K4 := hid b4
                 clear b4)))
          go_wp2
          go_ret
          exact ⟨rfl, HF.out _ K6.out⟩

end Go.Proofs.Ytokgfnfgpjkpjaa
