import Derived.Test.YthkkdmblkalknaaGreatDoorA10
import Derived.Test.YthkkdmblkalknaaGreatDoorA07
import Derived.Test.YthkkdmblkalknaaGreatDoorA08
import Derived.Test.YthkkdmblkalknaaGreatDoorA06
import Derived.Test.YthkkdmblkalknaaGreatDoorA01
import Derived.Deep.RegionWith
/-
  op: Decode.
-/
namespace Go.Proofs.YthkkdmblkalknaaGreatDoor
open Go.RowKit

def tkn (w : World) (k : Nat) : Nat := match w.cell? ⟨k, 0, none⟩ with | some (.slice _ n _) => n | _ => 0
theorem TkS.tkn {w : World} {k : Nat} {s : St} (h : TkS 93 w k s) : ∃ a c, w.cell? ⟨k, 0, none⟩ = some (.slice a s.1.length c) ∧ tkn w k = s.1.length := by
  obtain ⟨v, ht, hr⟩ := h
  obtain ⟨a, c, rfl, _⟩ := hr.rd
  refine ⟨a, c, ht.c0, ?_⟩
  unfold Go.Proofs.YthkkdmblkalknaaGreatDoor.tkn
  rw [ht.c0]
theorem operation_any {w : World} {k : Nat} {s : St} (hG : GT w) (h9 : 9 ≤ k) (hT : TkS 93 w k s) (hs : s.1.length ≤ 16777216) :
    Calls Tryz.prog 43 #[.pointer (some ⟨k, 0, none⟩)] w fun e w' => ∃ v, e = .returned (.tuple #[.agg #[.int .i64 (opP s).1.1.k, .string (opP s).1.1.nm, .string (opP s).1.1.ot, .int .i64 (opP s).1.1.fr, .int .i64 (opP s).1.1.to, v], .int .i64 (opP s).1.2]) ∧ OpE w k (opP s).1.1 (opP s).2 v w' := by
  by_cases hK : (nbG pt s 1).1 < 1 ∨ 11 < (nbG pt s 1).1
  · have e : opP s = ((PO0, 160), (nbG pt s 1).2) := by unfold opP; rw [if_pos hK]
    rw [e]
    refine (operation_no hT hs hK).mono ?_
    rintro e w' ⟨rfl, h⟩
    exact ⟨_, rfl, h⟩
  · obtain ⟨m, hm⟩ := Int.eq_ofNat_of_zero_le (show 0 ≤ (nbG pt s 1).1 by omega)
    exact operation_yes hG h9 hT hs m hm (by omega) (by omega)

/-- within Decode -/
structure DcS (B k : Nat) (w wr : World) (s : St) (v : Value) (os : List PO) : Prop where
  tk : TkS 93 wr k s
  ow : ∃ vs, OwL B wr v os vs
  bel : Below k w wr
  kB : k < B
  Bw : B ≤ wr.heap.size
  ls : s.1.length + os.length ≤ 16777216

set_option maxRecDepth 100000 in
set_option maxHeartbeats 4000000 in
theorem Decode_any (v : Value) (zs : List Int) (w : World) (hG : GT w) (hl : zs.length ≤ 16777216) (hR : RdC w.heap.size w v zs) :
    Calls Tryz.prog 16 #[v] w fun e w' => ∃ u vs, e = .returned (.tuple #[u, .int .i64 (dcd zs).2]) ∧ OwL w.heap.size w' u (dcd zs).1 vs ∧ Below w.heap.size w w' := by
  obtain ⟨W0, hW0⟩ : ∃ W0, W0 = w.alloc (.cells #[v, .bool false] 93) := ⟨_, rfl⟩
  have b0 : Below w.heap.size w W0 := by rw [hW0]; exact below1 _ _
  have z0 : W0.heap.size = w.heap.size + 1 := by rw [hW0]; simp
  have d0 : DcS (w.heap.size + 1) w.heap.size w W0 (zs, false) (.slice none 0 0) [] := by
    refine ⟨⟨v, ?_, ?_⟩, ⟨_, OwL.nil _ _⟩, b0, by omega, by omega, by simpa using hl⟩
    · unfold Tkr; rw [hW0]; exact heap_new _ _
    · exact hR.but (But.of_below (X := fun _ => False) b0) (Nat.le_refl _) (fun _ _ h => h)
  obtain ⟨a0, c0, rfl, _⟩ := hR.rd
  have HSTEP : Hid (∀ (wr : World) (s : St) (u : Value) (os : List PO), s.1 ≠ [] → DcS (w.heap.size + 1) w.heap.size w wr s u os → Calls Tryz.prog 43 #[.pointer (some ⟨w.heap.size, 0, none⟩)] wr fun e w2 => ∃ o va vn vc E, e = .returned (.tuple #[.agg #[.int .i64 o.k, .string o.nm, .string o.ot, .int .i64 o.fr, .int .i64 o.to, .slice va vn vc], .int .i64 E]) ∧ opP s = ((o, E), (opP s).2) ∧ Below w.heap.size w w2 ∧
      (E = 0 → ∀ W3, W3 = (w2.alloc (.cells #[.int .i64 o.k, .string o.nm, .string o.ot, .int .i64 o.fr, .int .i64 o.to, .slice va vn vc] 29)).alloc (.cells #[.int .i64 o.k, .string o.nm, .string o.ot, .int .i64 o.fr, .int .i64 o.to, .slice va vn vc] 29) → ∃ u' w', (Builtin.append_ #[22, 22] 22 #[u, .slice (some ⟨w2.heap.size + 1, 0, none⟩) 1 1]).run Tryz.prog W3 = .ok u' w' ∧ DcS (w.heap.size + 1) w.heap.size w w' (opP s).2 u' (os ++ [o]))) := by
    intro wr s u os hne hS
    obtain ⟨vs, how⟩ := hS.ow
    have hlt := opP_lt hne
    have hls := hS.ls
    have hkw := hS.tk.lt
    refine (operation_any (hG.below hS.bel hG.lt) hG.lt hS.tk (by omega)).mono ?_
    rintro e w2 ⟨v2, rfl, h1, h2, h3⟩
    obtain ⟨va, vc, rfl⟩ := h1.form
    have bw2 : Below w.heap.size w w2 := hS.bel.trans (h3.below (Nat.le_of_lt hkw) (fun x hx h => by omega))
    refine ⟨(opP s).1.1, va, _, vc, (opP s).1.2, rfl, rfl, bw2, fun hE W3 hW3 => ?_⟩
    have b3 : Below w2.heap.size w2 W3 := by rw [hW3]; exact two_below _ _ _
    have how2 : OwL (w.heap.size + 1) w2 u os vs := how.keep fun g hg hgl => h3.block g hgl (by omega)
    have hz := h3.size
    obtain ⟨u', w', hr, hL, hg⟩ := (how2.next b3).push 22 (opP s).1.1 _ ((h1.mono hS.Bw).next b3) (fun i hi g hgi e => by
      have q1 := (how.dat i (by rw [← how.len]; exact hi)).lt g hgi
      have q2 := h1.base g e
      omega) (g := w2.heap.size + 1) (by
        rw [hW3]
        have := heap_new (w2.alloc (.cells #[.int .i64 (opP s).1.1.k, .string (opP s).1.1.nm, .string (opP s).1.1.ot, .int .i64 (opP s).1.1.fr, .int .i64 (opP s).1.1.to, .slice va (opP s).1.1.da.length vc] 29)) (.cells #[.int .i64 (opP s).1.1.k, .string (opP s).1.1.nm, .string (opP s).1.1.ot, .int .i64 (opP s).1.1.fr, .int .i64 (opP s).1.1.to, .slice va (opP s).1.1.da.length vc] 29)
        rw [World.size_alloc] at this
        exact this) (by omega) (by have := hS.Bw; have := b3.size; omega)
    have hub : ∀ g, u.ownBlock = some g → w.heap.size + 1 ≤ g := fun g hg => (own_blk how.row hg).1
    have bg : Below (w.heap.size + 1) W3 w' := hg.below (by have := hS.Bw; have := b3.size; omega) hub
    have b4 : Below (w.heap.size + 1) w2 w' := (b3.mono (by have := hS.Bw; omega)).trans bg
    refine ⟨u', w', hr, ⟨h2.but (X := fun x => w.heap.size + 1 ≤ x) ⟨b4.os, b4.tape, b4.output, b4.size, fun j _ hj => b4.block j (by omega)⟩ (fun x hx => by omega), ⟨_, hL⟩, bw2.trans (b4.mono (by omega)), by omega, by have := hS.Bw; have := b4.size; omega, by simp; omega⟩⟩
  have HD0 := hid d0
  have HW0 := hid hW0
  have HZ := hid (show zs.length ≤ zs.length from Nat.le_refl _)
  clear d0 hW0 b0 z0 hG hl hR HZ
  have HDC : Hid (dcd zs = decA zs.length (zs, false) []) := rfl
  generalize dcd zs = X at *
  generalize hB : w.heap.size + 1 = B at HSTEP HD0
  have HB := hid hB
  clear hB
  obtain ⟨k, hk⟩ : ∃ k, k = w.heap.size := ⟨_, rfl⟩
  have HK := hid hk
  rw [← hk] at HSTEP HD0
  clear hk
  go_enter Tryz.func16, Tryz.ntmps16
  go_wp2_with fail
  rw [← HW0.out]
  rw [← HK.out]
  go_loopw [4] (fun u wr => ∃ (s : St) (os : List PO), s.1.length ≤ zs.length ∧ X = decA zs.length s os ∧ DcS B k w wr s u os) (fun _ wr => tkn wr k)
  case atStart => exact ⟨_, _, Nat.le_refl _, HDC.out, HD0.out⟩
  case round =>
    clear HD0 HDC HW0
    obtain ⟨s, os, hsl, hX, hS⟩ := hrel
    obtain ⟨ta, tc, ct, htn⟩ := hS.tk.tkn
    by_cases hne : s.1 = []
    · have HX := hid (hX.trans (decA_stop hne))
      have HS := hid hS
      have l0 : s.1.length = 0 := by rw [hne]; rfl
      rw [l0] at ct
      clear hX hS hne hsl htn l0
      go_wp2
      go_ret2
      obtain ⟨vs, hL⟩ := HS.out.ow
      refine ⟨u4, vs, ?_, ?_, ?_⟩
      · rw [HX.out]; rfl
      · rw [HX.out]; exact hL.mono (by have := HB.out; omega)
      · exact HK.out ▸ HS.out.bel
    · have hpos : 0 < (s.1.length : Int) := by have := List.length_pos_iff.2 hne; omega
      have H43 := hid (HSTEP.out wr s _ os hne hS)
      have HLT := hid (opP_lt hne)
      have HX := hid hX
      have HSL := hid hsl
      have HNE := hid hne
      have HTN := hid htn
      clear hS hX hsl hne htn
      go_wp2_with fail
      refine H43.out.mono ?_
      rintro e w2 ⟨o, va, vn, vc, E, rfl, hop, hb2, hgo⟩
      have HOP := hid hop
      have HB2 := hid hb2
      have HGO := hid hgo
      clear hop hb2 hgo H43 ct
      by_cases hE : E = 0
      · obtain ⟨u', w', hrun, hS2⟩ := HGO.out hE _ rfl
        have HS2 := hid hS2
        have HX2 := hid (decA_go (acc := os) HSL.out HNE.out (by rw [HOP.out]; exact hE))
        subst hE
        clear hS2 HGO
        go_wp2_with (at_builtin; refine Lib.wpList_append_run _ rfl _ _ _ _ rfl _ _ rfl rfl _ _ hrun ?_)
        go_roundw
        case rel => exact ⟨(opP s).2, os ++ [o], by have := HLT.out; have := HSL.out; omega, by rw [HX.out, HX2.out, show (opP s).1.1 = o by rw [HOP.out]], HS2.out⟩
        case measure =>
          obtain ⟨_, _, _, h2⟩ := HS2.out.tk.tkn
          rw [h2, HTN.out]
          exact HLT.out
      · have qE : (E != 0) = true := by simpa using hE
        have HX2 := hid (HX.out.trans (decA_err (acc := os) HSL.out HNE.out (by rw [HOP.out]; exact hE)))
        have HE2 : Hid ((opP s).1.2 = E) := by show (opP s).1.2 = E; rw [HOP.out]
        clear HGO hE
        go_wp2
        go_ret2
        refine ⟨.slice none 0 0, [], ?_, ?_, ?_⟩
        · rw [HX2.out, HE2.out]; rfl
        · rw [HX2.out]; exact OwL.nil _ _
        · exact (HK.out ▸ HB2.out : Below w.heap.size w w2).alloc (by have := HB2.out.size; exact this) _

end Go.Proofs.YthkkdmblkalknaaGreatDoor
/-
  op: Encode.
-/
namespace Go.Proofs.YthkkdmblkalknaaGreatDoor
open Go.RowKit

def encL (os : List PO) : List Int := os.flatMap encO
theorem flat_takeO {α : Type} (f : PO → List α) (os : List PO) (i : Nat) (h : i < os.length) : (os.take (i + 1)).flatMap f = (os.take i).flatMap f ++ f os[i] := by
  rw [List.take_add_one, List.flatMap_append]
  simp [h]
theorem flat_take_le {α : Type} (f : PO → List α) (os : List PO) (i : Nat) : ((os.take i).flatMap f).length ≤ (os.flatMap f).length := by
  conv => rhs; rw [← List.take_append_drop i os, List.flatMap_append, List.length_append]
  omega

set_option maxRecDepth 100000 in
set_option maxHeartbeats 4000000 in
theorem Encode_any (x : Option Addr) (c : Nat) (os : List PO) (w : World) (hl : os.length ≤ 16777216) (hz : (encL os).length ≤ 536870912) (hG : GT w) (hR : RdO w.heap.size w x os) :
    Calls Tryz.prog 12 #[.slice x os.length c] w fun e w' => ∃ v, e = .returned (.tuple #[v, .int .i64 (ckA os)]) ∧ Ow w.heap.size w' v (if ckA os = 0 then encL os else []) ∧ Below w.heap.size w w' := by
  have H38 := hid (checkAll_any x c os w hl hG hR)
  by_cases h0 : ckA os = 0
  case neg =>
    rw [if_neg h0]
    have q : (ckA os != 0) = true := by simpa using h0
    clear h0 hG hR hz
    generalize ckA os = E at *
    go_enter Tryz.func12, Tryz.ntmps12
    go_wp2_with fail
    refine H38.out.mono ?_
    rintro e w1 ⟨rfl, hb⟩
    have HB := hid hb
    clear hb
    go_wp2
    go_ret2
    exact ⟨_, rfl, Ow.nil _ _, HB.out⟩
  case pos =>
    rw [if_pos h0]
    have HZ := hid (ckA_zero h0)
    rw [h0] at H38 ⊢
    have HG := hid hG
    have HR := hid hR
    have HL := hid hz
    clear hG hR h0 hz
    go_enter Tryz.func12, Tryz.ntmps12
    go_wp2_with fail
    refine H38.out.mono ?_
    rintro e w1 ⟨rfl, hb⟩
    have HB := hid hb
    clear hb H38
    go_wp2_with fail
    go_loopw [5, 15] (fun d i wr => ∃ r : Nat, r ≤ os.length ∧ i = .int .i64 (r : Int) ∧ Below w.heap.size w wr ∧ Ow w.heap.size wr d ((os.take r).flatMap encO)) (fun _ i _ => os.length - (intOf i).toNat)
    case atStart => exact ⟨0, Nat.zero_le _, rfl, HB.out, by simpa using Ow.nil _ _⟩
    case round =>
      obtain ⟨r, hr, rfl, hb, how⟩ := hrel
      by_cases hlt : r < os.length
      · have hR2 := HR.out.below hb
        obtain ⟨b, off, rfl, hbl, hc⟩ := hR2.2.resolve_left (fun e => by rw [e] at hlt; simp at hlt)
        obtain ⟨a, cp, ⟨c0, c1, c2, c3, c4, c5⟩, hD, hn⟩ := hc r hlt
        have hck := HZ.out (os[r]'hlt) (List.getElem_mem hlt)
        have HNX := hid (flat_takeO encO os r hlt)
        have hle := flat_take_le encO os r
        generalize hO : os[r]'hlt = o at *
        have HC : Hid (∀ W, W = wr.alloc (.cells #[.int .i64 o.k, .string o.nm, .string o.ot, .int .i64 o.fr, .int .i64 o.to, .slice a o.da.length cp] 29) → Calls Tryz.prog 39 #[u5, opV o.k o.nm o.ot o.fr o.to a o.da.length cp] W fun e w' => ∃ v', e = .returned v' ∧ Below w.heap.size w w' ∧ Ow w.heap.size w' v' ((os.take (r + 1)).flatMap encO)) := by
          intro W hW
          have b1 : Below w.heap.size w W := by rw [hW]; exact hb.alloc hb.size _
          have b2 : Below wr.heap.size wr W := by rw [hW]; exact below1 _ _
          have hlen : (encL os).length ≤ 536870912 := HL.out
          unfold encL at hlen
          refine (aBytes_any o a cp hck hn (hD.below (b2.mono hb.size)) (HG.out.next b1) HG.out.lt (how.next b2) (by omega) b1.size).mono ?_
          rintro e w4 ⟨v4, rfl, h4, g4⟩
          exact ⟨v4, rfl, b1.trans (g4.below b1.size how.base), by rw [HNX.out]; exact h4⟩
        clear hc hR2 hck HNX hle hO hb how hD hn
        go_wp2_with fail
        refine (HC.out _ rfl).mono ?_
        rintro e w4 ⟨v4, rfl, h4, g4⟩
        have HF := hid (And.intro h4 g4)
        clear h4 g4 HC c0 c1 c2 c3 c4 c5
        go_wp2
        go_roundw
        case rel => exact ⟨r + 1, by omega, by go_num, HF.out.1, HF.out.2⟩
        case measure => simp [intOf]; omega
      · obtain rfl : r = os.length := by omega
        have HF := hid (And.intro hb how)
        clear hb how
        go_wp2
        go_ret2
        refine ⟨_, rfl, ?_, HF.out.1⟩
        have := HF.out.2
        rw [List.take_length] at this
        exact this

end Go.Proofs.YthkkdmblkalknaaGreatDoor
/-
  op: lineOf.
-/
namespace Go.Proofs.YthkkdmblkalknaaGreatDoor
open Go.RowKit

theorem info9 : (Tryz.prog.info? 9).map (fun i => (i.zero, i.size, i.bytes)) = some (some (.string ByteArray.empty), 1, 16) := by kernel_rfl
/-- texts of one's own -/
def OwS (B : Nat) (w : World) (v : Value) (xs : List ByteArray) : Prop := w.ownsRow B 9 1 v xs.length (xs.map Value.string)
theorem OwS.base {B : Nat} {w : World} {v : Value} {xs : List ByteArray} (h : OwS B w v xs) : ∀ g, v.ownBlock = some g → B ≤ g := by
  intro g hg
  rcases h.2 with ⟨e, _⟩ | ⟨g', cap, cur, e, hb, _⟩
  · rw [e] at hg; simp [Value.ownBlock] at hg
  · rw [e] at hg; simp [Value.ownBlock] at hg; omega
theorem OwS.lt {B : Nat} {w : World} {v : Value} {xs : List ByteArray} (h : OwS B w v xs) : ∀ g, v.ownBlock = some g → g < w.heap.size := by
  intro g hg
  rcases h.2 with ⟨e, _⟩ | ⟨g', cap, cur, e, hb, hh, _⟩
  · rw [e] at hg; simp [Value.ownBlock] at hg
  · rw [e] at hg; simp [Value.ownBlock] at hg; subst hg; exact (Array.getElem?_eq_some_iff.1 hh).1
theorem OwS.keep {B : Nat} {w w' : World} {v : Value} {xs : List ByteArray} (h : OwS B w v xs) (hk : ∀ g, v.ownBlock = some g → w'.heap[g]? = w.heap[g]?) : OwS B w' v xs := by
  obtain ⟨h1, h2⟩ := h
  refine ⟨h1, ?_⟩
  rcases h2 with ⟨e, q⟩ | ⟨g', cap, cur, e, hb, hh, r⟩
  · exact .inl ⟨e, q⟩
  · exact .inr ⟨g', cap, cur, e, hb, (hk g' (by rw [e]; rfl)).trans hh, r⟩
theorem OwS.next {B : Nat} {w w' : World} {v : Value} {xs : List ByteArray} (h : OwS B w v xs) (hb : Below w.heap.size w w') : OwS B w' v xs := h.keep fun g hg => hb.block g (h.lt g hg)
theorem OwS.nil (B : Nat) (w : World) : OwS B w (.slice none 0 0) [] := ⟨rfl, .inl ⟨rfl, rfl⟩⟩
theorem app1S {B : Nat} {w : World} {v : Value} {xs : List ByteArray} (ty : TypeId) (ho : OwS B w v xs) {g : Nat} {s : ByteArray} (hc : w.cell? ⟨g, 0, none⟩ = some (.string s)) (hz : xs.length ≤ 1073741824) (hw : B ≤ w.heap.size) :
    ∃ v' w', (Builtin.append_ #[59, 59] ty #[v, .slice (some ⟨g, 0, none⟩) 1 1]).run Tryz.prog w = .ok v' w' ∧ OwS B w' v' (xs ++ [s]) ∧ Gr w w' v v' := by
  obtain ⟨i0, hi, hz0, hz1, hz2⟩ := info_parts info9
  obtain ⟨v', w', hr, h2, h3, _, h5⟩ := run_append_own_at (P := Tryz.prog) w B 59 ty 9 i0 (.string ByteArray.empty) 1 16 Tryz.underlying59 hi hz0 hz1 hz2 rfl (by decide) v xs.length (xs.map Value.string) ho ⟨g, 0, none⟩ 1 1 [.string s] rfl (fun j u hu => by
    match j, hu with
    | 0, hu =>
      simp at hu
      rw [Addr.add_lit, ← hu]
      exact hc) (fun u hu => by simp at hu; subst hu; rfl) (by unfold maxLen; omega) (by omega) hw
  refine ⟨v', w', hr, ?_, ⟨h3.os, h3.tape, h3.output, h3.size, h3.block, h5.elim .inl fun e => .inr ⟨_, e, Nat.le_refl _⟩⟩⟩
  unfold OwS
  rw [List.map_append, List.length_append]
  exact h2
/-- texts of one's own, to be read -/
theorem OwS.rd {B : Nat} {w : World} {v : Value} {xs : List ByteArray} (h : OwS B w v xs) (hn : xs ≠ []) : ∃ g c, v = .slice (some ⟨g, 0, none⟩) xs.length c ∧ xs.length ≤ c ∧ g < w.heap.size ∧ ∀ (j : Nat) x, xs[j]? = some x → w.cell? ⟨g, 0 + j, none⟩ = some (.string x) := by
  have hlt := h.lt
  have hc := fun g => World.ownsRow.cells (g := g) h
  obtain ⟨h1, h2⟩ := h
  rcases h2 with ⟨rfl, q⟩ | ⟨g', cap, cur, rfl, hb, hh, r1, r2, r3, r4⟩
  · exact absurd (List.eq_nil_of_length_eq_zero q) hn
  · refine ⟨g', cap, rfl, r1, hlt g' rfl, fun j x hx => ?_⟩
    have := hc g' rfl j (.string x) (by simp [hx])
    rw [Addr.add_lit] at this
    exact this

/-- a line's texts -/
def txts (o : PO) (ws : List ByteArray) : List ByteArray := ws.map (shownB o)
def lineB (o : PO) : ByteArray := ⟨(Lib.join ((txts o (wordsOf o.k.toNat)).map (·.data.toList)) [32]).toArray⟩ ++ ⟨#[10]⟩

/-- within lineOf -/
structure LnS (S D : Nat) (o : PO) (a : Option Addr) (c : Nat) (ws : List ByteArray) (w wr : World) (v : Value) (ys : List ByteArray) : Prop where
  ow : OwS w.heap.size wr v ys
  bel : Below w.heap.size w wr
  o0 : wr.cell? ⟨S, 0, none⟩ = some (.int .i64 o.k)
  o1 : wr.cell? ⟨S, 1, none⟩ = some (.string o.nm)
  o2 : wr.cell? ⟨S, 2, none⟩ = some (.string o.ot)
  o3 : wr.cell? ⟨S, 3, none⟩ = some (.int .i64 o.fr)
  o4 : wr.cell? ⟨S, 4, none⟩ = some (.int .i64 o.to)
  o5 : wr.cell? ⟨S, 5, none⟩ = some (.slice a o.da.length c)
  d : ∀ j, j < 4 → wr.cell? ⟨D, 0 + j, none⟩ = some (.string (ws.getD j ByteArray.empty))
  sl : S < wr.heap.size
  sn : some S ≠ v.ownBlock
  dl : D < wr.heap.size
  dn : some D ≠ v.ownBlock
theorem LnS.step {S D : Nat} {o : PO} {a : Option Addr} {c : Nat} {ws : List ByteArray} {w wr w' : World} {v v' : Value} {ys ys' : List ByteArray} (h : LnS S D o a c ws w wr v ys) (ho : OwS w.heap.size w' v' ys') (hg : Gr wr w' v v') : LnS S D o a c ws w w' v' ys' where
  ow := ho
  bel := h.bel.trans (hg.below h.bel.size h.ow.base)
  o0 := (hg.cell h.sl h.sn).trans h.o0
  o1 := (hg.cell h.sl h.sn).trans h.o1
  o2 := (hg.cell h.sl h.sn).trans h.o2
  o3 := (hg.cell h.sl h.sn).trans h.o3
  o4 := (hg.cell h.sl h.sn).trans h.o4
  o5 := (hg.cell h.sl h.sn).trans h.o5
  d j hj := (hg.cell h.dl h.dn).trans (h.d j hj)
  sl := Nat.lt_of_lt_of_le h.sl hg.size
  sn := hg.apart h.sl h.sn
  dl := Nat.lt_of_lt_of_le h.dl hg.size
  dn := hg.apart h.dl h.dn
theorem map_take_next (f : ByteArray → ByteArray) (ws : List ByteArray) (i : Nat) (h : i < ws.length) : (ws.take (i + 1)).map f = (ws.take i).map f ++ [f (ws.getD i ByteArray.empty)] := by
  rw [List.take_add_one, List.map_append]
  simp [h]

set_option maxRecDepth 100000 in
set_option maxHeartbeats 8000000 in
theorem lineOf_any (o : PO) (a : Option Addr) (c : Nat) (w : World) (hk : o.ck = 0) (hD : Rd w.heap.size w a o.da.length o.da) (hG : GT w) (hjl : (Lib.join ((txts o (wordsOf o.k.toNat)).map (·.data.toList)) [32]).length ≤ 1073741824) :
    Calls Tryz.prog 41 #[opV o.k o.nm o.ot o.fr o.to a o.da.length c] w fun e w' => e = .returned (.string (lineB o)) ∧ Below w.heap.size w w' := by
  have q := ck_ok hk
  obtain ⟨m, hm⟩ := Int.eq_ofNat_of_zero_le (show 0 ≤ o.k by have := q.k1; omega)
  have m1 : 1 ≤ m := by have := q.k1; omega
  have m2 : m ≤ 11 := by have := q.k2; omega
  have hkn : o.k.toNat = m := by omega
  obtain ⟨W, hW⟩ : ∃ W, W = w.alloc (.cells #[.int .i64 o.k, .string o.nm, .string o.ot, .int .i64 o.fr, .int .i64 o.to, .slice a o.da.length c] 29) := ⟨_, rfl⟩
  have b1 : Below w.heap.size w W := by rw [hW]; exact below1 _ _
  have zW : W.heap.size = w.heap.size + 1 := by rw [hW]; simp
  obtain ⟨e4, n4⟩ := nw_idx m1 m2
  obtain ⟨f0, f1, f2, f3⟩ := FmC.of (hG.next b1) m2
  have HWD : Hid (Calls Tryz.prog 68 #[.agg #[.string (kw m), .string (tl m).1, .string (tl m).2.1, .string (tl m).2.2]] W fun e w3 => e = .returned (.slice (some ⟨W.heap.size, 0, none⟩) (nw m) 4) ∧ LnS w.heap.size W.heap.size o a c (frm m) w w3 (.slice none 0 0) []) := by
    refine (words_any (kw m) (tl m).1 (tl m).2.1 (tl m).2.2 W _ rfl (nw m) e4 n4).mono ?_
    rintro e w3 ⟨rfl, hw3⟩
    have b3 : Below W.heap.size W w3 := by rw [hw3]; exact below1 _ _
    have l1 : w.heap.size < W.heap.size := by omega
    have hz := b3.size
    have c0 := fun i x (h : (#[.int .i64 o.k, .string o.nm, .string o.ot, .int .i64 o.fr, .int .i64 o.to, .slice a o.da.length c] : Array Value)[i]? = some x) => (b3.cell (p := ⟨w.heap.size, i, none⟩) l1).trans (cell_al hW i x h)
    refine ⟨rfl, ⟨OwS.nil _ _, b1.trans (b3.mono b1.size), c0 0 _ rfl, c0 1 _ rfl, c0 2 _ rfl, c0 3 _ rfl, c0 4 _ rfl, c0 5 _ rfl, fun j hj => four_cells hw3 j hj, by omega, by simp [Value.ownBlock], ?_, by simp [Value.ownBlock]⟩⟩
    rw [hw3]; simp
  have HS71 : Hid (∀ (r : Nat) (wr : World) (v : Value) (xs : List ByteArray) (x : ByteArray), xs.length ≤ 4 → LnS w.heap.size W.heap.size o a c (frm m) w wr v xs → Calls Tryz.prog 71 #[opV o.k o.nm o.ot o.fr o.to a o.da.length c, .string x] wr fun e w4 => e = .returned (.string (shownB o x)) ∧
      ∀ W4, W4 = w4.alloc (.cells #[.string (shownB o x)] 9) → ∃ v' w', (Builtin.append_ #[59, 59] 59 #[v, .slice (some ⟨w4.heap.size, 0, none⟩) 1 1]).run Tryz.prog W4 = .ok v' w' ∧ LnS w.heap.size W.heap.size o a c (frm m) w w' v' (xs ++ [shownB o x])) := by
    intro r wr v xs x hx hS
    refine (shown_any o x a c wr (hG.next hS.bel) (by have := q.n; omega) ((hD.below hS.bel).mono hS.bel.size) (by have := q.f0; omega) (by have := q.f1; omega) (by have := q.t0; omega) (by have := q.t1; omega)).mono ?_
    rintro e w4 ⟨rfl, b4⟩
    refine ⟨rfl, fun W4 hW4 => ?_⟩
    have b5 : Below w4.heap.size w4 W4 := by rw [hW4]; exact below1 _ _
    have b6 : Below wr.heap.size wr W4 := b4.trans (b5.mono b4.size)
    obtain ⟨v', w', hr, h2, h3⟩ := app1S 59 (hS.ow.next b6) (cell_al hW4 0 _ rfl) (by omega) (Nat.le_trans hS.bel.size b6.size)
    exact ⟨v', w', hr, hS.step h2 ((Gr.of_below v b6).trans h3)⟩
  have HJ : Hid (∀ (wr : World) (v : Value), LnS w.heap.size W.heap.size o a c (frm m) w wr v (txts o ((frm m).take (nw m))) → Calls Tryz.prog 72 #[v, .string ⟨#[32]⟩] wr fun e w' => e = .returned (.string ⟨(Lib.join ((txts o (wordsOf o.k.toNat)).map (·.data.toList)) [32]).toArray⟩) ∧ Below w.heap.size w w') := by
    intro wr v hS
    have hnn : txts o ((frm m).take (nw m)) ≠ [] := by
      intro e
      have he := congrArg List.length e
      unfold txts at he
      rw [List.length_map, List.length_take] at he
      have h4 : (frm m).length = 4 := rfl
      rw [h4, List.length_nil] at he
      have h2 : 2 ≤ nw m := by rcases nat_kinds m1 m2 with rfl | rfl | rfl | rfl | rfl | rfl | rfl | rfl | rfl | rfl | rfl <;> decide
      omega
    obtain ⟨g, cp, rfl, h1, h2, h3⟩ := hS.ow.rd hnn
    have e : wordsOf o.k.toNat = (frm m).take (nw m) := by rw [hkn]; rfl
    rw [e] at hjl ⊢
    refine (Tryz.strings_Join g 0 cp _ ⟨#[32]⟩ wr h3 h2 (by unfold txts; rw [List.length_map, List.length_take]; omega) h1 (Nat.le_trans hjl (by decide))).mono ?_
    rintro e w' ⟨rfl, hb⟩
    exact ⟨rfl, hS.bel.trans (hb.mono hS.bel.size)⟩
  have HW := hid hW
  have HZ := hid zW
  have hnw : (nw m : Int) ≤ 4 := by omega
  have HLB : Hid (lineB o = ⟨(Lib.join ((txts o (wordsOf o.k.toNat)).map (·.data.toList)) [32]).toArray⟩ ++ ⟨#[10]⟩) := rfl
  rw [HLB.out]
  have hJ : (⟨(Lib.join ((txts o (wordsOf o.k.toNat)).map (·.data.toList)) [32]).toArray⟩ : ByteArray).size ≤ 1073741824 := by simpa [ByteArray.size] using hjl
  generalize (⟨(Lib.join ((txts o (wordsOf o.k.toNat)).map (·.data.toList)) [32]).toArray⟩ : ByteArray) = J at *
  rw [hW, hm] at f0 f1 f2 f3
  clear hW b1 zW e4 hk hD hG q hjl hkn HLB
  have HM := hid hm
  rw [hm] at HS71 HW ⊢
  clear hm
  generalize hSz : w.heap.size = S at HWD HS71 HJ HZ ⊢
  go_enter Tryz.func41, Tryz.ntmps41
  go_wp2_with fail
  rw [← HW.out]
  refine HWD.out.mono ?_
  rintro e w3 ⟨rfl, hA⟩
  have HS0 := hid hA
  clear hA HWD f0 f1 f2 f3 HW HZ
  generalize W.heap.size = D at *
  go_wp2_with fail
  go_loopw [3, 12] (fun d i wr => ∃ (r : Nat), r ≤ nw m ∧ i = .int .i64 (r : Int) ∧ LnS S D o a c (frm m) w wr d (txts o ((frm m).take r))) (fun _ i _ => nw m - (intOf i).toNat)
  case atStart => exact ⟨0, Nat.zero_le _, rfl, HS0.out⟩
  case round =>
    obtain ⟨r, hr, rfl, hS⟩ := hrel
    by_cases hlt : r < nw m
    · have hc := hS.d r (by omega)
      rw [Nat.zero_add] at hc
      have HNX := hid (map_take_next (shownB o) (frm m) r (by show r < 4; omega))
      have o0 := hS.o0
      rw [HM.out] at o0
      have o1 := hS.o1
      have o2 := hS.o2
      have o3 := hS.o3
      have o4 := hS.o4
      have o5 := hS.o5
      generalize hx : (frm m).getD r ByteArray.empty = x at *
      clear hx
      have H71 := hid (HS71.out r wr _ _ x (by unfold txts; rw [List.length_map, List.length_take]; omega) hS)
      clear hS
      go_wp2_with fail
      refine H71.out.mono ?_
      rintro e w4 ⟨rfl, hap⟩
      obtain ⟨v', w', hrun, hS2⟩ := hap _ rfl
      have HS2 := hid hS2
      clear hap hS2 H71 o0 o1 o2 o3 o4 o5 hc
      go_wp2_with (at_builtin; refine Lib.wpList_append_run _ rfl _ _ _ _ rfl _ _ rfl rfl _ _ hrun ?_)
      go_roundw
      case rel => exact ⟨r + 1, by omega, by go_num, by unfold txts; rw [HNX.out]; exact HS2.out⟩
      case measure => simp [intOf]; omega
    · obtain rfl : r = nw m := by omega
      have H72 := hid (HJ.out wr _ hS)
      clear hS
      go_wp2_with fail
      refine H72.out.mono ?_
      rintro e w4 ⟨rfl, hb⟩
      have HB := hid hb
      clear hb
      go_wp2
      go_ret
      exact ⟨rfl, HB.out⟩

end Go.Proofs.YthkkdmblkalknaaGreatDoor
/-
  op: Print.
-/
namespace Go.Proofs.YthkkdmblkalknaaGreatDoor
open Go.RowKit

def lineL (o : PO) : List UInt8 := (lineB o).data.toList
def prtL (os : List PO) : List UInt8 := os.flatMap lineL
theorem lineL_eq (o : PO) : lineL o = Lib.join ((txts o (wordsOf o.k.toNat)).map (·.data.toList)) [32] ++ [10] := by
  unfold lineL lineB
  show (ByteArray.append _ _).data.toList = _
  simp [ByteArray.append]
theorem size_lineB (o : PO) : (lineB o).size = (lineL o).length := rfl

set_option maxRecDepth 100000 in
set_option maxHeartbeats 4000000 in
theorem Print_any (x : Option Addr) (c : Nat) (os : List PO) (w : World) (hl : os.length ≤ 16777216) (hz : (prtL os).length ≤ 1073741824) (hG : GT w) (hR : RdO w.heap.size w x os) :
    Calls Tryz.prog 15 #[.slice x os.length c] w fun e w' => e = .returned (.tuple #[.string (if ckA os = 0 then ⟨(prtL os).toArray⟩ else ⟨#[]⟩), .int .i64 (ckA os)]) ∧ Below w.heap.size w w' := by
  have H38 := hid (checkAll_any x c os w hl hG hR)
  by_cases h0 : ckA os = 0
  case neg =>
    rw [if_neg h0]
    have q : (ckA os != 0) = true := by simpa using h0
    clear h0 hG hR hz
    generalize ckA os = E at *
    go_enter Tryz.func15, Tryz.ntmps15
    go_wp2_with fail
    refine H38.out.mono ?_
    rintro e w1 ⟨rfl, hb⟩
    have HB := hid hb
    clear hb
    go_wp2
    go_ret2
    exact ⟨rfl, HB.out⟩
  case pos =>
    rw [if_pos h0]
    have HZ := hid (ckA_zero h0)
    rw [h0] at H38 ⊢
    have HG := hid hG
    have HR := hid hR
    have HL := hid hz
    clear hG hR h0 hz
    go_enter Tryz.func15, Tryz.ntmps15
    go_wp2_with fail
    refine H38.out.mono ?_
    rintro e w1 ⟨rfl, hb⟩
    obtain ⟨W1, hW1⟩ : ∃ W1, W1 = w1.alloc (.cells #[.pointer none, .slice none 0 0] 84) := ⟨_, rfl⟩
    have HF := hid (Bd.fresh w1)
    rw [← hW1] at HF
    have HB := hid (show Below w.heap.size w W1 by rw [hW1]; exact hb.alloc hb.size _)
    have HW1 := hid hW1
    have HW0 := hid hb.size
    clear hb H38 hW1
    go_wp2_with fail
    rw [← HW1.out]
    generalize w1.heap.size = b at *
    go_loopw [15] (fun i wr => ∃ r : Nat, r ≤ os.length ∧ i = .int .i64 (r : Int) ∧ Below w.heap.size w wr ∧ Bd b b ((os.take r).flatMap lineL) wr) (fun i _ => os.length - (intOf i).toNat)
    case atStart => exact ⟨0, Nat.zero_le _, rfl, HB.out, by simpa using HF.out⟩
    case round =>
      clear HB HF HW1
      obtain ⟨r, hr, rfl, hb, hbd⟩ := hrel
      by_cases hlt : r < os.length
      · have hR2 := HR.out.below hb
        obtain ⟨g, off, rfl, hbl, hc⟩ := hR2.2.resolve_left (fun e => by rw [e] at hlt; simp at hlt)
        obtain ⟨a, cp, ⟨c0, c1, c2, c3, c4, c5⟩, hD, hn⟩ := hc r hlt
        have hck := HZ.out (os[r]'hlt) (List.getElem_mem hlt)
        have HNX := hid (flat_takeO lineL os r hlt)
        have hle := flat_take_le lineL os (r + 1)
        rw [HNX.out, List.length_append] at hle
        generalize hO : os[r]'hlt = o at *
        have HC : Hid (∀ W, W = wr.alloc (.cells #[.int .i64 o.k, .string o.nm, .string o.ot, .int .i64 o.fr, .int .i64 o.to, .slice a o.da.length cp] 29) → Calls Tryz.prog 41 #[opV o.k o.nm o.ot o.fr o.to a o.da.length cp] W fun e w' => e = .returned (.string (lineB o)) ∧ Calls Tryz.prog 40 #[.pointer (some ⟨b, 0, none⟩), .string (lineB o)] w' fun e w5 => ∃ ev, e = .returned ev ∧ Below w.heap.size w w5 ∧ Bd b b ((os.take (r + 1)).flatMap lineL) w5) := by
          intro W hW
          have b1 : Below w.heap.size w W := by rw [hW]; exact hb.alloc hb.size _
          have b2 : Below wr.heap.size wr W := by rw [hW]; exact below1 _ _
          have hlen : (prtL os).length ≤ 1073741824 := HL.out
          unfold prtL at hlen
          have hll : (lineL o).length ≤ 1073741824 := by omega
          rw [lineL_eq, List.length_append] at hll
          refine (lineOf_any o a cp W hck (((hD.below (b2.mono hb.size)).mono b1.size)) (HG.out.next b1) (by omega)).mono ?_
          rintro e w4 ⟨rfl, h4⟩
          have b4 := b1.trans (h4.mono b1.size)
          refine ⟨rfl, (WStr_any b b _ (lineB o) w4 ((hbd.next b2).next h4) (by rw [size_lineB]; omega) (by have := hbd.lt; have := b2.size; have := h4.size; omega)).mono ?_⟩
          rintro e w5 ⟨rfl, h5, b5⟩
          exact ⟨_, rfl, b4.trans (b5.mono HW0.out), by rw [HNX.out]; exact h5⟩
        clear hc hR2 hck HNX hle hO hb hbd hD hn
        go_wp2_with fail
        refine (HC.out _ rfl).mono ?_
        rintro e w4 ⟨rfl, h40⟩
        have H40 := hid h40
        clear h40 HC c0 c1 c2 c3 c4 c5
        go_wp2_with fail
        refine H40.out.mono ?_
        rintro e w5 ⟨ev, rfl, h4, g4⟩
        have HF := hid (And.intro h4 g4)
        clear h4 g4 H40
        go_wp2
        go_roundw
        case rel => exact ⟨r + 1, by omega, by go_num, HF.out.1, HF.out.2⟩
        case measure => simp [intOf]; omega
      · obtain rfl : r = os.length := by omega
        rw [List.take_length] at hbd
        have H42 := hid (BStr_any b b _ wr hbd (by have := hbd.lt; omega))
        have HF := hid hb
        clear hb hbd
        go_wp2_with fail
        refine H42.out.mono ?_
        rintro e w5 ⟨rfl, h5⟩
        have HE := hid (HF.out.trans (h5.mono HW0.out))
        clear h5 H42
        go_wp2
        go_ret2
        exact ⟨rfl, HE.out⟩

end Go.Proofs.YthkkdmblkalknaaGreatDoor
/-
  SameBytes, SameOp, SameOps: of what is the same.
-/
namespace Go.Proofs.YthkkdmblkalknaaGreatDoor
open Go.RowKit

set_option maxRecDepth 100000 in
set_option maxHeartbeats 1000000 in
theorem SameBytes_same (a a' : Option Addr) (n c c' : Nat) (zs : List Int) (w : World) {B B' : Nat} (h1 : Rd B w a n zs) (h2 : Rd B' w a' n zs) :
    Calls Tryz.prog 20 #[.slice a n c, .slice a' n c'] w fun e w' => e = .returned (.bool true) ∧ w' = w := by
  have e1 := conv_str h1 c
  have e2 := conv_str h2 c'
  clear h1 h2
  go_enter Tryz.func20, Tryz.ntmps20
  go_wp2
  go_ret
  exact ⟨rfl, rfl⟩

set_option maxRecDepth 100000 in
set_option maxHeartbeats 4000000 in
theorem SameOp_same (o : PO) (a a' : Option Addr) (c c' : Nat) (w : World) (h1 : Rd w.heap.size w a o.da.length o.da) (h2 : Rd w.heap.size w a' o.da.length o.da) :
    Calls Tryz.prog 46 #[.agg #[.int .i64 o.k, .string o.nm, .string o.ot, .int .i64 o.fr, .int .i64 o.to, .slice a o.da.length c], .agg #[.int .i64 o.k, .string o.nm, .string o.ot, .int .i64 o.fr, .int .i64 o.to, .slice a' o.da.length c']] w fun e w' => e = .returned (.bool true) ∧ Below w.heap.size w w' := by
  obtain ⟨W2, hW2⟩ : ∃ W2, W2 = (w.alloc (.cells #[.int .i64 o.k, .string o.nm, .string o.ot, .int .i64 o.fr, .int .i64 o.to, .slice a o.da.length c] 29)).alloc (.cells #[.int .i64 o.k, .string o.nm, .string o.ot, .int .i64 o.fr, .int .i64 o.to, .slice a' o.da.length c'] 29) := ⟨_, rfl⟩
  have b2 : Below w.heap.size w W2 := by rw [hW2]; exact ((Below.refl _ _).alloc (Nat.le_refl _) _).alloc (by simp) _
  have HC := hid (SameBytes_same a a' o.da.length c c' o.da W2 (h1.below b2) (h2.below b2))
  have HB := hid b2
  have HW2 := hid hW2
  clear h1 h2 b2 hW2
  generalize o.da.length = n at *
  generalize o.k = k at *
  generalize o.nm = nm at *
  generalize o.ot = ot at *
  generalize o.fr = fr at *
  generalize o.to = to at *
  go_enter Tryz.func46, Tryz.ntmps46
  go_wp2_with fail
  rw [← HW2.out]
  refine HC.out.mono ?_
  rintro e w3 ⟨rfl, hw3⟩
  rw [hw3]
  clear hw3
  go_wp2
  go_ret
  exact ⟨rfl, HB.out⟩

set_option maxRecDepth 100000 in
set_option maxHeartbeats 4000000 in
theorem SameOps_same (x y : Option Addr) (c c' : Nat) (os : List PO) (w : World) (hl : os.length ≤ 16777216) (h1 : RdO w.heap.size w x os) (h2 : RdO w.heap.size w y os) :
    Calls Tryz.prog 19 #[.slice x os.length c, .slice y os.length c'] w fun e w' => e = .returned (.bool true) ∧ Below w.heap.size w w' := by
  have H1 := hid h1
  have H2 := hid h2
  clear h1 h2
  go_enter Tryz.func19, Tryz.ntmps19
  go_wp2_with fail
  go_loopw [5] (fun i wr => ∃ r : Nat, r ≤ os.length ∧ i = .int .i64 (r : Int) ∧ Below w.heap.size w wr) (fun i _ => os.length - (intOf i).toNat)
  case atStart => exact ⟨0, Nat.zero_le _, rfl, Below.refl _ _⟩
  case round =>
    obtain ⟨r, hr, rfl, hb⟩ := hrel
    by_cases hlt : r < os.length
    · have hR1 := H1.out.below hb
      have hR2 := H2.out.below hb
      obtain ⟨b, off, rfl, hbl, hc⟩ := hR1.2.resolve_left (fun e => by rw [e] at hlt; simp at hlt)
      obtain ⟨b', off', rfl, hbl', hc'⟩ := hR2.2.resolve_left (fun e => by rw [e] at hlt; simp at hlt)
      obtain ⟨a, cp, ⟨c0, c1, c2, c3, c4, c5⟩, r1, _⟩ := hc r hlt
      obtain ⟨a', cp', ⟨d0, d1, d2, d3, d4, d5⟩, r2, _⟩ := hc' r hlt
      generalize hO : os[r]'hlt = o at *
      have hbd : Below w.heap.size w wr.drew := hb.trans (below_drew _ _)
      have HC := hid (SameOp_same o a a' cp cp' wr.drew ((r1.below (below_drew _ _)).mono hb.size) ((r2.below (below_drew _ _)).mono hb.size))
      have HB := hid hbd
      clear hc hc' hR1 hR2 hO r1 r2 H1 H2 hbd hb
      have hr1 : (r : Int) < (os.length : Int) := by omega
      go_wp2_with fail
      go_region_with (go_at_call 46; refine Calls.mono HC.out ?_; rintro e w1 ⟨rfl, hb1⟩; (have HB1 := hid (HB.out.trans (hb1.mono HB.out.size)); clear hb1))
      all_goals go_wp2
      all_goals
        go_roundw
        case rel => exact ⟨r + 1, by omega, by go_num, HB1.out⟩
        case measure => simp [intOf]; omega
    · have e : r = os.length := by omega
      subst e
      have HB := hid hb
      clear hb
      go_wp2
      go_ret
      exact ⟨rfl, HB.out⟩

end Go.Proofs.YthkkdmblkalknaaGreatDoor
