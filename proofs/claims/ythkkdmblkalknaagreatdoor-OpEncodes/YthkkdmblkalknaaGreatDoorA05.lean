import Derived.Test.YthkkdmblkalknaaGreatDoorA03
import Derived.Test.YthkkdmblkalknaaGreatDoorA04
import Derived.Lib.AppendZeros
import Derived.Test.YthkkdmblkalknaaGreatDoorA02
import Derived.Lib.AppendIntMem
import Derived.Laws.DeepStrings4
/-
  op: appendNumber, appendText.
-/
namespace Go.Proofs.YthkkdmblkalknaaGreatDoor
open Go.RowKit

theorem pow256 {x : Int} (h : x = 1 ∨ x = 4) : (256 : Int) ^ x.toNat = if x = 1 then 256 else 4294967296 := by rcases h with rfl | rfl <;> decide
theorem Rd.of_blk {w : World} {g : Nat} {zs : List Int} (h : Blk .u8 5 w g zs) (hB : Pl.isB zs) : Rd w.heap.size w (some ⟨g, 0, none⟩) zs.length zs := ⟨rfl, hB, .inr ⟨g, 0, rfl, h.lt, fun t ht => by rw [Nat.zero_add]; exact h.cell t ht⟩⟩

set_option maxRecDepth 100000 in
set_option maxHeartbeats 1000000 in
theorem aNum_any {B : Nat} {w : World} {v : Value} {zs : List Int} (n x : Int) (hx : x = 1 ∨ x = 4) (h0 : 0 ≤ n) (h1 : n < 256 ^ x.toNat) (ho : Ow B w v zs) (hz : zs.length ≤ 1073741824) (hw : B ≤ w.heap.size) :
    Calls Tryz.prog 67 #[v, .int .i64 n, .int .i64 x] w fun e w' => ∃ v', e = .returned v' ∧ Ow B w' v' (zs ++ Pl.dig n x.toNat) ∧ Gr w w' v v' := by
  obtain ⟨W, hW⟩ : ∃ W, W = w.alloc (.cells #[.int .i64 x, .int .i64 n] 148) := ⟨_, rfl⟩
  have hb : Below w.heap.size w W := by rw [hW]; exact below1 _ _
  have zW : W.heap.size = w.heap.size + 1 := by rw [hW]; simp
  have h1' := h1
  rw [pow256 hx] at h1'
  have hF : RdF W.heap.size W (some ⟨w.heap.size, 0, none⟩) 1 [(x, n)] := ⟨rfl, fun f hf => by simp at hf; subst hf; exact ⟨by show -9223372036854775808 ≤ n; omega, by show n ≤ 9223372036854775807; split at h1' <;> omega⟩, .inr ⟨_, 0, rfl, by omega, fun t ht => by
    obtain rfl : t = 0 := by omega
    exact ⟨cell_al hW 0 _ rfl, cell_al hW 1 _ rfl⟩⟩⟩
  have hok : okF [(x, n)] := by
    intro f hf
    simp at hf
    subst hf
    show chk x n = 0
    unfold chk
    rw [if_neg (by rcases hx with rfl | rfl <;> decide), if_neg (by omega)]
  have hp : packZ [(x, n)] = Pl.dig n x.toNat := by simp [packZ]
  have HP : Hid (Calls Tryz.prog 101 #[.slice (some ⟨w.heap.size, 0, none⟩) 1 1] W fun e w2 => ∃ g m, e = .returned (.tuple #[.slice (some ⟨g, 0, none⟩) m m, .int .i64 0]) ∧
      ∃ v' w', (Builtin.append_ #[23, 23] 23 #[v, .slice (some ⟨g, 0, none⟩) m m]).run Tryz.prog w2 = .ok v' w' ∧ Ow B w' v' (zs ++ Pl.dig n x.toNat) ∧ Gr w w' v v') := by
    refine (Pack_ok (some ⟨w.heap.size, 0, none⟩) 1 1 [(x, n)] W (by decide) hF hok).mono ?_
    rw [hp]
    rintro e w2 ⟨g, rfl, hg, hB, hb2⟩
    have b2 : Below w.heap.size w w2 := hb.trans (hb2.mono hb.size)
    have hl : (Pl.dig n x.toNat).length ≤ 8 := by rw [Pl.length_dig]; rcases hx with rfl | rfl <;> decide
    obtain ⟨v', w', hr, h2, h3⟩ := app_rd 23 (ho.next b2) (Rd.of_blk hB (Pl.isB_dig _ _)) (fun e => by cases e) (c := (Pl.dig n x.toNat).length) (by omega) hz (Nat.le_trans hw b2.size)
    exact ⟨g, _, rfl, v', w', hr, h2, (Gr.of_below v b2).trans h3⟩
  have HW := hid hW
  clear hW hb zW h1' hF hok hp ho h0 h1 hz hw
  generalize zs ++ Pl.dig n x.toNat = ys at *
  go_enter Tryz.func67, Tryz.ntmps67
  go_wp2_with fail
  rw [← HW.out]
  refine Calls.mono HP.out ?_
  rintro e w2 ⟨g, m, rfl, v', w', hr, hE⟩
  have HE := hid hE
  clear hE HP HW
  go_wp2_with (at_builtin; refine Lib.wpList_append_run _ rfl _ _ _ _ rfl _ _ rfl rfl _ _ hr ?_)
  go_ret
  exact ⟨v', rfl, HE.out⟩

/-- a text behind its length -/
def txtB (s : ByteArray) : List Int := Pl.dig (s.size : Int) 1 ++ nums s
set_option maxRecDepth 100000 in
set_option maxHeartbeats 1000000 in
theorem aText_any {B : Nat} {w : World} {v : Value} {zs : List Int} (s : ByteArray) (hs : s.size < 256) (ho : Ow B w v zs) (hz : zs.length ≤ 1073741000) (hw : B ≤ w.heap.size) :
    Calls Tryz.prog 69 #[v, .string s] w fun e w' => ∃ v', e = .returned v' ∧ Ow B w' v' (zs ++ txtB s) ∧ Gr w w' v v' := by
  have HP : Hid (Calls Tryz.prog 67 #[v, .int .i64 (s.size : Int), .int .i64 1] w fun e w2 => ∃ v2, e = .returned v2 ∧
      ∃ v' w', (Builtin.append_ #[23, 9] 23 #[v2, .string s]).run Tryz.prog w2 = .ok v' w' ∧ Ow B w' v' (zs ++ txtB s) ∧ Gr w w' v v') := by
    refine (aNum_any (s.size : Int) 1 (.inl rfl) (by omega) (by show (s.size : Int) < 256 ^ 1; omega) ho (by omega) hw).mono ?_
    rintro e w2 ⟨v2, rfl, h2, hg⟩
    obtain ⟨v', w', hr, h3, h4⟩ := app_str 23 h2 s (by omega) (by rw [List.length_append, Pl.length_dig]; show zs.length + 1 ≤ _; omega) (Nat.le_trans hw hg.size)
    refine ⟨v2, rfl, v', w', hr, ?_, hg.trans h4⟩
    unfold txtB
    rw [← List.append_assoc]
    exact h3
  clear ho hz hw
  generalize zs ++ txtB s = ys at *
  have hl : (s.size : Int) ≤ 255 := by omega
  go_enter Tryz.func69, Tryz.ntmps69
  go_wp2_with fail
  refine Calls.mono HP.out ?_
  rintro e w2 ⟨v2, rfl, v', w', hr, hE⟩
  have HE := hid hE
  clear hE HP
  go_wp2_with (at_builtin; refine Lib.wpList_append_run _ rfl _ _ _ _ rfl _ _ rfl rfl _ _ hr ?_)
  go_ret
  exact ⟨v', rfl, HE.out⟩

end Go.Proofs.YthkkdmblkalknaaGreatDoor
/-
  op: appendBytes.
-/
namespace Go.Proofs.YthkkdmblkalknaaGreatDoor
open Go.RowKit

/-- an operation -/
structure PO where
  k : Int
  nm : ByteArray
  ot : ByteArray
  fr : Int
  to : Int
  da : List Int
def PO.ck (o : PO) : Int := ckO o.k o.nm o.ot o.fr o.to o.da.length
/-- its bytes, word by word -/
def wordB (o : PO) (x : ByteArray) : List Int := if x = cNM then txtB o.nm else if x = cOT then txtB o.ot else if x = cFR then Pl.dig o.fr 4 else if x = cTO then Pl.dig o.to 4 else if x = cDA then o.da else []
def wordsOf (k : Nat) : List ByteArray := (frm k).take (nw k)
def encO (o : PO) : List Int := Pl.dig o.k 1 ++ (wordsOf o.k.toNat).flatMap (wordB o)

theorem emp_size {s : ByteArray} (h : emp s = true) : s.size = 0 := by
  unfold emp at h
  rw [beq_iff_eq, ByteArray.toList_eq] at h
  have : s.data.size = 0 := by rw [← Array.length_toList, h]; rfl
  exact this
structure CkOk (k : Int) (nm ot : ByteArray) (fr to : Int) (n : Nat) : Prop where
  k1 : 1 ≤ k
  k2 : k ≤ 11
  nm : nm.size ≤ 31
  ot : ot.size ≤ 31
  f0 : 0 ≤ fr
  f1 : fr ≤ 262144
  t0 : 0 ≤ to
  t1 : to ≤ 262144
  n : n ≤ 512
set_option maxRecDepth 100000 in
theorem ck_ok {k : Int} {nm ot : ByteArray} {fr to : Int} {n : Nat} (h : ckO k nm ot fr to n = 0) : CkOk k nm ot fr to n := by
  unfold ckO at h
  by_cases h0 : k < 1 ∨ 11 < k
  · rw [if_pos h0] at h; cases h
  rw [if_neg h0] at h
  by_cases h1 : isF k.toNat nm ot fr to n = false
  · rw [if_pos h1] at h; cases h
  rw [if_neg h1] at h
  by_cases h2 : (uN k.toNat && !nmB nm) = true
  · rw [if_pos h2] at h; cases h
  rw [if_neg h2] at h
  by_cases h3 : (uO k.toNat && !nmB ot) = true
  · rw [if_pos h3] at h; cases h
  rw [if_neg h3] at h
  by_cases h4 : (uD k.toNat && (n : Int) != 512) = true
  · rw [if_pos h4] at h; cases h
  rw [if_neg h4] at h
  by_cases h5 : szB k to = false
  · rw [if_pos h5] at h; cases h
  rw [if_neg h5] at h
  by_cases h6 : rgB k fr to = false
  · rw [if_pos h6] at h; cases h
  clear h
  obtain ⟨m, rfl⟩ := Int.eq_ofNat_of_zero_le (show 0 ≤ k by omega)
  rw [show ((m : Int)).toNat = m from rfl] at *
  simp only [Bool.not_eq_false] at h1 h5 h6
  unfold isF isF5 at h1
  simp only [Bool.and_eq_true, Bool.or_eq_true, beq_iff_eq] at h1
  obtain ⟨⟨⟨⟨p1, p2⟩, p3⟩, p4⟩, p5⟩ := h1
  have nN : nm.size ≤ 31 := by
    rcases p1 with p | p
    · rw [p] at h2; simp at h2; exact (nmB_size h2).2
    · have := emp_size p; omega
  have nO : ot.size ≤ 31 := by
    rcases p2 with p | p
    · rw [p] at h3; simp at h3; exact (nmB_size h3).2
    · have := emp_size p; omega
  have nD : n ≤ 512 := by
    rcases p5 with p | p
    · rw [p] at h4; simp at h4; omega
    · omega
  clear h2 h3 h4 p1 p2 p5
  unfold szB at h5
  unfold rgB at h6
  unfold uF at p3
  unfold uT at p4
  rw [decide_eq_true_eq] at p3 p4
  rcases nat_kinds (show 1 ≤ m by omega) (show m ≤ 11 by omega) with rfl | rfl | rfl | rfl | rfl | rfl | rfl | rfl | rfl | rfl | rfl <;> simp at h5 h6 p3 p4 <;> exact ⟨by omega, by omega, nN, nO, by omega, by omega, by omega, by omega, nD⟩

theorem beq_lit (x : ByteArray) (l : List UInt8) : (x.toList == l) = decide (x = ⟨l.toArray⟩) := by
  rw [Bool.eq_iff_iff, beq_iff_eq, decide_eq_true_eq, ByteArray.toList_eq]
  exact ⟨fun h => by apply ByteArray.ext; apply Array.toList_inj.1; simpa using h, fun h => by rw [h]⟩

/-- within appendBytes -/
structure AbS (B S D : Nat) (o : PO) (a : Option Addr) (c : Nat) (ws : List ByteArray) (w wr : World) (v0 v : Value) (ys : List Int) : Prop where
  ow : Ow B wr v ys
  gr : Gr w wr v0 v
  bel : Below B w wr
  o1 : wr.cell? ⟨S, 1, none⟩ = some (.string o.nm)
  o2 : wr.cell? ⟨S, 2, none⟩ = some (.string o.ot)
  o3 : wr.cell? ⟨S, 3, none⟩ = some (.int .i64 o.fr)
  o4 : wr.cell? ⟨S, 4, none⟩ = some (.int .i64 o.to)
  o5 : wr.cell? ⟨S, 5, none⟩ = some (.slice a o.da.length c)
  d : ∀ j, j < 4 → wr.cell? ⟨D, 0 + j, none⟩ = some (.string (ws.getD j ByteArray.empty))
  sl : S < wr.heap.size
  sn : some S ≠ v.ownBlock
  dl : D < wr.heap.size
  dn : some D ≠ v.ownBlock
theorem AbS.step {B S D : Nat} {o : PO} {a : Option Addr} {c : Nat} {ws : List ByteArray} {w wr w' : World} {v0 v v' : Value} {ys ys' : List Int} (h : AbS B S D o a c ws w wr v0 v ys) (ho : Ow B w' v' ys') (hg : Gr wr w' v v') (hB : B ≤ w.heap.size) : AbS B S D o a c ws w w' v0 v' ys' where
  ow := ho
  gr := h.gr.trans hg
  bel := h.bel.trans (hg.below (Nat.le_trans hB h.bel.size) h.ow.base)
  o1 := (hg.cell h.sl h.sn).trans h.o1
  o2 := (hg.cell h.sl h.sn).trans h.o2
  o3 := (hg.cell h.sl h.sn).trans h.o3
  o4 := (hg.cell h.sl h.sn).trans h.o4
  o5 := (hg.cell h.sl h.sn).trans h.o5
  d j hj := (hg.cell h.dl h.dn).trans (h.d j hj)
  sl := Nat.lt_of_lt_of_le h.sl hg.size
  sn := hg.apart h.sl h.sn
  dl := Nat.lt_of_lt_of_le h.dl hg.size
  dn := hg.apart h.dl h.dn

theorem frm_get (k : Nat) : frm k = [kw k, (tl k).1, (tl k).2.1, (tl k).2.2] := rfl
set_option maxRecDepth 100000 in
theorem nw_idx {k : Nat} (h1 : 1 ≤ k) (h2 : k ≤ 11) : (if Lib.idxOfS (frm k) ByteArray.empty < 0 then nw k = 4 else Lib.idxOfS (frm k) ByteArray.empty = (nw k : Int)) ∧ nw k ≤ 4 := by
  rcases nat_kinds h1 h2 with rfl | rfl | rfl | rfl | rfl | rfl | rfl | rfl | rfl | rfl | rfl <;> decide +kernel
theorem flat_take {α : Type} (f : ByteArray → List α) (ws : List ByteArray) (i : Nat) (h : i < ws.length) : (ws.take (i + 1)).flatMap f = (ws.take i).flatMap f ++ f (ws.getD i ByteArray.empty) := by
  rw [List.take_add_one, List.flatMap_append]
  simp [h]

end Go.Proofs.YthkkdmblkalknaaGreatDoor
/-
  The library in our words: Itoa, the Builder, Join, Clone.
-/
namespace Go.Proofs.YthkkdmblkalknaaGreatDoor
open Go.RowKit Go.Shelf

def itoaB (n : Int) : ByteArray := ⟨(Lib.itoa n).toArray⟩
theorem Itoa_any (n : Int) (h0 : -9223372036854775808 ≤ n) (h1 : n ≤ 9223372036854775807) (w : World) (hG : GT w) : Calls Tryz.prog 91 #[.int .i64 n] w fun e w' => e = .returned (.string (itoaB n)) ∧ Below w.heap.size w w' := by
  have htab : w.var? Tryz.prog ((Tryz.prog.globals[2]?.map (·.name)).getD (Tryz.prog.godebug)) = some (Lib.pow10Tab.map fun z => Value.int .u64 z).toArray := by
    obtain ⟨t, fz, h⟩ := hG.p10
    unfold World.var?
    rw [show Tryz.prog.globalNamed ((Tryz.prog.globals[2]?.map (·.name)).getD (Tryz.prog.godebug)) = some 2 from by kernel_rfl]
    simp only [Option.bind_some, h]
  refine (Any.strconv_Itoa Tryz.laysM171 n h0 h1 w htab).mono ?_
  rintro e w' ⟨rfl, k, os, rfl⟩
  exact ⟨rfl, Lib.below_grow _ w (Nat.le_refl _) k os⟩

/-- a builder that holds these bytes -/
def Bd (B b : Nat) (l : List UInt8) (w : World) : Prop := Lib.IsBuilderF 84 5 B b (Lib.byteCells l) w
theorem Bd.of {B b : Nat} {l : List UInt8} {w w' : World} (h : Bd B b l w) (hb : w'.heap[b]? = w.heap[b]?) (hr : ∀ (k : Nat) (c : Array Value) (fz : Nat × Nat), w.heap[k]? = some (Obj.cells c 5 fz) → w'.heap[k]? = w.heap[k]?) : Bd B b l w' := by
  have one : ∀ p, Lib.BuilderAtF 84 5 B b p (Lib.byteCells l) w → Lib.BuilderAtF 84 5 B b p (Lib.byteCells l) w' := by
    rintro p ⟨hB, v, hh, ho, hn⟩
    refine ⟨hB, v, hb.trans hh, ⟨ho.1, ?_⟩, hn⟩
    rcases ho.2 with q | ⟨g, cap, cur, fz, e, hg, hc, r⟩
    · exact .inl q
    · exact .inr ⟨g, cap, cur, fz, e, hg, (hr g _ _ hc).trans hc, r⟩
  rcases h with h | h
  · exact .inl (one _ h)
  · exact .inr (one _ h)
theorem Bd.lt {B b : Nat} {l : List UInt8} {w : World} (h : Bd B b l w) : b < w.heap.size := by
  rcases h with h | h <;> exact h.lt
theorem Bd.base {B b : Nat} {l : List UInt8} {w : World} (h : Bd B b l w) : B ≤ b := by
  rcases h with h | h <;> exact h.1
theorem Bd.next {B b : Nat} {l : List UInt8} {w w' : World} (h : Bd B b l w) (hb : Below w.heap.size w w') : Bd B b l w' :=
  Bd.of h (hb.block b h.lt) fun k _ _ hk => hb.block k (Array.getElem?_eq_some_iff.1 hk).1
theorem Bd.fresh (w : World) : Bd w.heap.size w.heap.size [] (w.alloc (.cells #[.pointer none, .slice none 0 0] 84)) :=
  .inl ⟨Nat.le_refl _, .slice none 0 0, heap_new _ _, ⟨rfl, .inl ⟨rfl, rfl⟩⟩, by simp [Value.ownBlock]⟩

theorem lays166 : Lays.n166 Tryz.prog Tryz.lays156_ren := { Tryz.lays156 with }
theorem byteCells_app (l : List UInt8) (s : ByteArray) : Lib.byteCells l ++ Lib.strCells s = Lib.byteCells (l ++ s.data.toList) := by
  unfold Lib.byteCells Lib.strCells
  rw [List.map_append]
theorem WStr_any (B b : Nat) (l : List UInt8) (s : ByteArray) (w : World) (h : Bd B b l w) (hl : l.length + s.size ≤ 140737488355328) (hB : B ≤ w.heap.size) :
    Calls Tryz.prog 40 #[.pointer (some ⟨b, 0, none⟩), .string s] w fun e w' => e = .returned (.tuple #[.int .i64 s.size, .nilIface]) ∧ Bd B b (l ++ s.data.toList) w' ∧ Below B w w' := by
  refine (Any.Builder_WriteString_k lays166 Tryz.Builder_Extra_156 B b (Lib.byteCells l) s w h (by rw [Lib.byteCells_length]; exact hl) hB).mono ?_
  rintro e w' ⟨rfl, h2, h3, _⟩
  refine ⟨rfl, .inr ?_, h3⟩
  rw [byteCells_app] at h2
  exact h2
def ren167 : Ren := ⟨fun n => if n = 167 then 126 else Tryz.lays156_ren.f n, Tryz.lays156_ren.t, Tryz.lays156_ren.g⟩
theorem lays167 : Lays.n167 Tryz.prog ren167 := { Tryz.lays156 with
  f167 := Tryz.func126.trans (congrArg some (by kernel_rfl))
  f240 := Tryz.func70.trans (congrArg some (by kernel_rfl))
  f276 := Tryz.func102.trans (congrArg some (by kernel_rfl))
  t5 := Tryz.underlying5
  a5 := Tryz.isAgg5
  z5 := Tryz.sizeOf5
  v5 := Tryz.zeroValue5 }
theorem extra167 : Builder.Extra Tryz.prog ren167 := {
  sizeBuilder := by kernel_rfl
  liesBuilder := by kernel_rfl
  t5 := Tryz.underlying5
  a5 := Tryz.isAgg5
  z5 := Tryz.sizeOf5
  v5 := Tryz.zeroValue5
  infoByte := by kernel_rfl
  cellsByte := by kernel_rfl
  sizeByte := by kernel_rfl
  neB5 := by decide }
theorem WByte_any (B b : Nat) (l : List UInt8) (c : UInt8) (w : World) (h : Bd B b l w) (hl : l.length + 1 ≤ 140737488355328) (hB : B ≤ w.heap.size) :
    Calls Tryz.prog 126 #[.pointer (some ⟨b, 0, none⟩), .int .u8 c.toNat] w fun e w' => e = .returned .nilIface ∧ Bd B b (l ++ [c]) w' ∧ Below B w w' := by
  refine (Any.Builder_WriteByte_k lays167 extra167 B b (Lib.byteCells l) c.toNat w h (by rw [Lib.byteCells_length]; exact hl) hB).mono ?_
  rintro e w' ⟨rfl, h2, h3, _⟩
  refine ⟨rfl, .inr ?_, h3⟩
  have e : Lib.byteCells l ++ [Value.int .u8 c.toNat] = Lib.byteCells (l ++ [c]) := by unfold Lib.byteCells; rw [List.map_append]; rfl
  rw [e] at h2
  exact h2
theorem BStr_any (B b : Nat) (l : List UInt8) (w : World) (h : Bd B b l w) (hB : B ≤ w.heap.size) :
    Calls Tryz.prog 42 #[.pointer (some ⟨b, 0, none⟩)] w fun e w' => e = .returned (.string ⟨l.toArray⟩) ∧ Below B w w' :=
  (Tryz.Builder_String_any_k B b l w h hB).mono fun _ _ ⟨h1, _, h3, _⟩ => ⟨h1, h3⟩

end Go.Proofs.YthkkdmblkalknaaGreatDoor
/-
  op: strings.Clone, kindOf, numberOf.
-/
namespace Go.Proofs.YthkkdmblkalknaaGreatDoor
open Go.RowKit

set_option maxHeartbeats 1000000 in
theorem sClone_any (s : ByteArray) (w : World) (hs : s.size ≤ 1073741824) : Calls Tryz.prog 108 #[.string s] w fun e w' => e = .returned (.string s) ∧ Below w.heap.size w w' := by
  have H := hid (Tryz.stringslite_Clone s w (by omega))
  go_enter Tryz.func108, Tryz.ntmps108
  go_wp2_with fail
  refine H.out.mono ?_
  rintro e w' ⟨rfl, hb⟩
  have HB := hid hb
  clear hb
  go_wp2
  go_ret
  exact ⟨rfl, HB.out⟩

/-- the kind whose line begins with a word; 0: there is none -/
def kd (x : ByteArray) : Nat := ((List.range' 1 11).find? (fun j => decide (kw j = x))).getD 0
set_option maxRecDepth 100000 in
theorem kd_hit {x : ByteArray} {r : Nat} (h1 : 1 ≤ r) (h2 : r ≤ 11) (h : kw r = x) : kd x = r := by
  subst h
  rcases nat_kinds h1 h2 with rfl | rfl | rfl | rfl | rfl | rfl | rfl | rfl | rfl | rfl | rfl <;> decide +kernel
theorem kd_miss {x : ByteArray} (h : ∀ j, 1 ≤ j → j ≤ 11 → kw j ≠ x) : kd x = 0 := by
  unfold kd
  have : (List.range' 1 11).find? (fun j => decide (kw j = x)) = none := by
    rw [List.find?_eq_none]
    intro j hj
    rw [List.mem_range'_1] at hj
    simpa using h j (by omega) (by omega)
  rw [this]
  rfl
theorem kd_spec (x : ByteArray) : kd x ≤ 11 ∧ (1 ≤ kd x → kw (kd x) = x) := by
  by_cases h : ∃ j, 1 ≤ j ∧ j ≤ 11 ∧ kw j = x
  · obtain ⟨j, h1, h2, h3⟩ := h
    rw [kd_hit h1 h2 h3]
    exact ⟨h2, fun _ => h3⟩
  · rw [kd_miss (fun j h1 h2 h3 => h ⟨j, h1, h2, h3⟩)]
    exact ⟨by decide, fun h => by omega⟩

set_option maxRecDepth 100000 in
set_option maxHeartbeats 4000000 in
theorem kindOf_any (x : ByteArray) (w : World) (hG : GT w) : Calls Tryz.prog 80 #[.string x] w fun e w' => e = .returned (.tuple #[.int .i64 (kd x : Int), .bool (decide (1 ≤ kd x))]) ∧ w' = w := by
  have HF := hid (fun m (hm : m ≤ 11) => (show w.cell? ⟨0, m * 4, none⟩ = some (.string (kw m)) by
    rw [hG.fm (m * 4) (by omega)]
    unfold ftab
    rw [show m * 4 / 4 = m by omega, show m * 4 % 4 = 0 by omega]
    rfl))
  clear hG
  go_enter Tryz.func80, Tryz.ntmps80
  go_wp2_with fail
  go_loop [4] (fun i => ∃ r : Nat, 1 ≤ r ∧ r ≤ 12 ∧ i = .int .i64 (r : Int) ∧ ∀ j, 1 ≤ j → j < r → kw j ≠ x) (fun i => 12 - (intOf i).toNat)
  case atStart => exact ⟨1, by decide, by decide, rfl, fun j h1 h2 => by omega⟩
  case round =>
    obtain ⟨r, h1, h2, rfl, hall⟩ := hrel
    have HA := hid hall
    clear hall
    by_cases h12 : r ≤ 11
    · have q1 : (r : Int) ≤ 11 := by omega
      have q2 : (1 : Int) ≤ (r : Int) := by omega
      have hc := HF.out r h12
      by_cases hx : kw r = x
      · have HX := hid (kd_hit h1 h12 hx)
        have hb : ((kw r).toList == x.toList) = true := (Lib.bytes_beq_iff _ _).2 hx
        clear hx
        go_wp2
        go_ret2
        refine ⟨?_, rfl⟩
        rw [HX.out]
        simp [h1]
      · have HX := hid hx
        have hb : ((kw r).toList == x.toList) = false := (Lib.bytes_beq_false_iff _ _).2 hx
        clear hx
        go_wp2
        go_round
        case rel => exact ⟨r + 1, by omega, by omega, by go_num, fun j a b => by
          by_cases e : j = r
          · subst e; exact HX.out
          · exact HA.out j a (by omega)⟩
        case measure => simp [intOf]; omega
    · have q1 : ¬ (r : Int) ≤ 11 := by omega
      have HX := hid (kd_miss fun j a b => HA.out j a (by omega))
      go_wp2
      go_ret2
      refine ⟨?_, rfl⟩
      rw [HX.out]
      simp

/-- a number that is written as it is printed -/
def numP (s : ByteArray) : Int × Bool := match Lib.atoiAll s.data.toList with
  | .ok v => (v, decide (itoaB v = s))
  | .range => (Lib.atoiSat s.data.toList, false)
  | _ => (0, false)
theorem atoi_bd {l : List UInt8} {v : Int} (h : Lib.atoiAll l = .ok v) : -9223372036854775808 ≤ v ∧ v ≤ 9223372036854775807 := by
  unfold Lib.atoiAll at h
  cases l with
  | nil => simp at h
  | cons c r =>
    simp only at h
    split at h
    · cases h
    · cases h
    · split at h
      · cases h
      · split at h
        · cases h
        · rename_i h1 h2
          simp only [Lib.NumEnd.ok.injEq] at h
          subst h
          split
          · rename_i hn
            have := fun hh => h2 ⟨hn, hh⟩
            omega
          · rename_i hn
            have := fun hh => h1 ⟨hn, hh⟩
            omega
theorem sat_bd (l : List UInt8) : -9223372036854775808 ≤ Lib.atoiSat l ∧ Lib.atoiSat l ≤ 9223372036854775807 := by
  unfold Lib.atoiSat
  split <;> omega
theorem num_bd (s : ByteArray) : -9223372036854775808 ≤ (numP s).1 ∧ (numP s).1 ≤ 9223372036854775807 := by
  unfold numP
  split
  · rename_i h; exact atoi_bd h
  · exact sat_bd _
  · exact ⟨by decide, by decide⟩

set_option maxRecDepth 100000 in
set_option maxHeartbeats 4000000 in
theorem numberOf_any (s : ByteArray) (w : World) (hG : GT w) (hs : s.size ≤ 1073741824) : Calls Tryz.prog 109 #[.string s] w fun e w' => e = .returned (.tuple #[.int .i64 (numP s).1, .bool (numP s).2]) ∧ Below w.heap.size w w' := by
  rcases hA : Lib.atoiAll s.data.toList with v | _ | _
  · skip
    have e : numP s = (v, decide (itoaB v = s)) := by unfold numP; rw [hA]
    rw [e]
    have hv := atoi_bd hA
    have H1 : Hid (Calls Tryz.prog 134 #[.string s] w fun e w1 => e = .returned (.tuple #[.int .i64 v, .nilIface]) ∧ Calls Tryz.prog 91 #[.int .i64 v] w1 fun e w2 => e = .returned (.string (itoaB v)) ∧ Below w.heap.size w w2) := by
      refine (Tryz.strconv_Atoi_ok s (by omega) v hA w).mono ?_
      rintro e w1 ⟨rfl, hw⟩
      have b1 : Below w.heap.size w w1 := by
        rcases hw with rfl | ⟨t, rfl⟩
        · exact Below.refl _ _
        · exact Lib.bytesWorld_below w 5 t
      refine ⟨rfl, (Itoa_any v hv.1 hv.2 w1 (hG.next b1)).mono ?_⟩
      rintro e w2 ⟨rfl, b2⟩
      exact ⟨rfl, b1.trans (b2.mono b1.size)⟩
    clear hA e hv hG hs
    generalize itoaB v = J at *
    go_enter Tryz.func109, Tryz.ntmps109
    go_wp2_with fail
    refine H1.out.mono ?_
    rintro e w1 ⟨rfl, h2⟩
    have H2 := hid h2
    clear h2 H1
    go_wp2_with fail
    refine H2.out.mono ?_
    rintro e w2 ⟨rfl, hb⟩
    have HB := hid hb
    clear hb H2
    by_cases hJ : J = s
    · have q : (J.toList == s.toList) = true := (Lib.bytes_beq_iff _ _).2 hJ
      go_wp2
      go_ret2
      exact ⟨by simp [hJ], HB.out⟩
    · have q : (J.toList == s.toList) = false := (Lib.bytes_beq_false_iff _ _).2 hJ
      go_wp2
      go_ret2
      exact ⟨by simp [hJ], HB.out⟩
  · skip
    have e : numP s = (0, false) := by unfold numP; rw [hA]
    rw [e]
    obtain ⟨t, p, hes⟩ := hG.es
    have H1 := hid (Tryz.strconv_Atoi_none s (by omega) (fun v h => by rw [hA] at h; cases h) (fun h => by rw [hA] at h; cases h) (.iface t p) w hes (.inr ⟨t, p, rfl⟩))
    clear hA e hG hes hs
    go_enter Tryz.func109, Tryz.ntmps109
    go_wp2_with fail
    refine H1.out.mono ?_
    rintro e w1 ⟨N, rfl, _, _, hb⟩
    have HB := hid hb
    clear hb H1
    go_wp2
    go_ret2
    exact ⟨rfl, HB.out⟩
  · skip
    have e : numP s = (Lib.atoiSat s.data.toList, false) := by unfold numP; rw [hA]
    rw [e]
    obtain ⟨t, p, hes⟩ := hG.er
    have H1 := hid (Tryz.strconv_Atoi_range s (by omega) hA (.iface t p) w hes (.inr ⟨t, p, rfl⟩))
    clear hA e hG hes hs
    generalize Lib.atoiSat s.data.toList = J at *
    go_enter Tryz.func109, Tryz.ntmps109
    go_wp2_with fail
    refine H1.out.mono ?_
    rintro e w1 ⟨N, rfl, _, _, hb⟩
    have HB := hid hb
    clear hb H1
    go_wp2
    go_ret2
    exact ⟨rfl, HB.out⟩

end Go.Proofs.YthkkdmblkalknaaGreatDoor
/-
  strings.Lines: its iterator.
-/
namespace Go.Proofs.YthkkdmblkalknaaGreatDoor
open Go.RowKit Go.Deep Go.Shelf

attribute [local go_sem] Oper.semAt_some

/-- the first line, and the rest -/
def nlI (s : ByteArray) : Int := Lib.indexByte s.data.toList 10
def cutL (s : ByteArray) : ByteArray × ByteArray := if nlI s < 0 then (s, cE) else (s.extract 0 ((nlI s).toNat + 1), s.extract ((nlI s).toNat + 1) s.size)
def lns : Nat → ByteArray → List ByteArray
  | 0, _ => []
  | n + 1, s => if s.size = 0 then [] else (cutL s).1 :: lns n (cutL s).2
def linesB (s : ByteArray) : List ByteArray := lns s.size s
theorem idx_lt : ∀ (l : List UInt8) (c : UInt8), Lib.indexByte l c < (l.length : Int)
  | [], _ => by simp [Lib.indexByte]
  | b :: l, c => by
    have ih := idx_lt l c
    unfold Lib.indexByte
    split
    · simp
    · split
      · simp; omega
      · simp; omega
theorem nlI_lt (s : ByteArray) : nlI s < (s.size : Int) := by
  have := idx_lt s.data.toList 10
  rw [Array.length_toList] at this
  exact this
theorem cut_lt {s : ByteArray} (h : s.size ≠ 0) : (cutL s).2.size < s.size ∧ (cutL s).1.size ≤ s.size := by
  have := nlI_lt s
  unfold cutL
  split
  · exact ⟨by show 0 < _; omega, Nat.le_refl _⟩
  · constructor
    · show (s.extract _ _).size < _; rw [ByteArray.size_extract]; omega
    · show (s.extract _ _).size ≤ _; rw [ByteArray.size_extract]; omega
theorem lns_enough : ∀ (n m : Nat) (s : ByteArray), s.size ≤ n → s.size ≤ m → lns n s = lns m s
  | 0, 0, _, _, _ => rfl
  | 0, m + 1, s, h, _ => by unfold lns; rw [if_pos (by omega)]
  | n + 1, 0, s, _, h => by unfold lns; rw [if_pos (by omega)]
  | n + 1, m + 1, s, h1, h2 => by
    unfold lns
    split
    · rfl
    · rename_i h
      have := cut_lt h
      rw [lns_enough n m _ (by omega) (by omega)]
theorem linesB_nil {s : ByteArray} (h : s.size = 0) : linesB s = [] := by unfold linesB; rw [h]; rfl
theorem linesB_cons {s : ByteArray} (h : s.size ≠ 0) : linesB s = (cutL s).1 :: linesB (cutL s).2 := by
  have := cut_lt h
  unfold linesB
  obtain ⟨k, hk⟩ : ∃ k, s.size = k + 1 := ⟨s.size - 1, by omega⟩
  rw [hk]
  conv => lhs; unfold lns
  rw [if_neg (by omega), lns_enough k (cutL s).2.size _ (by omega) (Nat.le_refl _)]
theorem linesB_len : ∀ (n : Nat) (s : ByteArray), s.size ≤ n → (linesB s).length ≤ s.size
  | 0, s, h => by rw [linesB_nil (by omega)]; simp
  | n + 1, s, h => by
    by_cases h0 : s.size = 0
    · rw [linesB_nil h0]; simp
    · have := cut_lt h0
      have ih := linesB_len n (cutL s).2 (by omega)
      rw [linesB_cons h0]
      simp
      omega
def capN (w : World) (b : Nat) : Nat := match w.cell? ⟨b, 0, none⟩ with | some (.string s) => s.size | _ => 0

set_option maxRecDepth 100000 in
set_option maxHeartbeats 4000000 in
theorem lines_it (n : Nat) (hn : 1 ≤ n) (Bs B : Nat) (text : ByteArray) (htx : text.size ≤ 16777216) (I : ByteArray → List ByteArray → World → Prop) (Ix : ByteArray → Code → List ByteArray → World → Prop) (w : World) (hBs : Bs < B)
    (hV : ∀ c0 pre W, I c0 pre W → W.cell? ⟨Bs, 0, none⟩ = some (.string c0) ∧ W.frozen? ⟨Bs, 0, none⟩ = false) (hP : ∀ c0 c1 pre W, I c0 pre W → I c1 pre (W.setCell ⟨Bs, 0, none⟩ (.string c1))) (hD : ∀ c0 pre W, I c0 pre W → I c0 pre W.drew) :
    RfItG Fence.wide n Tryz.prog 77 #[.pointer (some ⟨Bs, 0, none⟩)] B (text.size + 1) (fun x : ByteArray => #[.string x]) (fun _ xs => xs = linesB text) (fun _ pre => ∃ rest, pre ≠ [] ∧ pre ++ rest = linesB text) (fun x => x.size ≤ text.size) I Ix w text := by
  intro R Rx W hR hRx hRl hRxl hY h0 hr0 hb
  have HV := hid hV
  have HP := hid hP
  have HD := hid hD
  have HY := hid hY
  have HR := hid (fun (A : World) (c1 : ByteArray) (h : R A) => hR A (A.setCell ⟨Bs, 0, none⟩ (.string c1)) h ⟨Below.heap_setCell _ _ _ _ (by show B ≠ Bs; omega), Below.heap_setCell _ _ _ _ (by show B + 1 ≠ Bs; omega)⟩)
  have HRd := hid (fun (A : World) (h : R A) => hR A A.drew h ⟨rfl, rfl⟩)
  clear hV hP hD hY hR hRx hRl hRxl hb
  refine callsIn_of_wp Tryz.func77 rfl trivial ?_ rfl
  simp only [Tryz.ntmps77, List.size_toArray, List.length_cons, List.length_nil, Nat.reduceAdd, Nat.reduceSub, Array.replicate_succ, Array.replicate_zero, List.push_toArray, List.append_toArray, List.nil_append, List.cons_append]
  gi_wp2
  gi_loopw [3] (fun _ wr => ∃ (c0 : ByteArray) (pre : List ByteArray), c0.size ≤ text.size ∧ pre.length + c0.size ≤ text.size ∧ pre ++ linesB c0 = linesB text ∧ I c0 pre wr ∧ R wr) (fun _ wr => capN wr Bs)
  case atStart => exact ⟨text, [], Nat.le_refl _, by simp, rfl, h0, hr0⟩
  case round =>
    clear h0 hr0
    obtain ⟨c0, pre, hc0, hpl, hpre, hI, hRr⟩ := hrel
    obtain ⟨hc, hf⟩ := HV.out _ _ _ hI
    have hcap : capN wr Bs = c0.size := by unfold capN; rw [hc]
    by_cases h0 : c0.size = 0
    · have h0' : (c0.size : Int) = 0 := by omega
      have HF := hid (And.intro hI hRr)
      have HPR : Hid (pre = linesB text) := by show pre = _; rw [← hpre, linesB_nil h0, List.append_nil]
      clear hI hRr hpre hpl hc0
      gi_wp2
      go_end0
      exact ⟨⟨_, rfl⟩, .inl ⟨_, _, HPR.out, HF.out.1, HF.out.2⟩⟩
    · have hcl := cut_lt h0
      have hlc := linesB_cons h0
      have hpos : 0 < (c0.size : Int) := by omega
      have HI := hid hI
      have HRr := hid hRr
      have hnl := nlI_lt c0
      have HIB := hid (fun nn => (callsIn_wide (n := nn)).2 (IndexByte_any c0 10 wr))
      rw [show Lib.indexByte c0.data.toList (10 : Int).toNat.toUInt8 = nlI c0 from rfl] at HIB
      have HPRE := hid hpre
      have HLC := hid hlc
      clear hI hRr hpre hlc
      by_cases hneg : nlI c0 < 0
      · have hcut : cutL c0 = (c0, cE) := by unfold cutL; rw [if_pos hneg]
        have HCUT := hid hcut
        obtain ⟨k, hk⟩ : ∃ k, k = nlI c0 := ⟨_, rfl⟩
        rw [← hk] at HIB hneg hnl
        clear hcut hk
        have HLE : Hid (cE.size ≤ text.size) := by have := hcl.1; rw [HCUT.out] at this; simp only at this; exact (by omega : cE.size ≤ text.size)
        have HLT : Hid (cE.size < c0.size) := by have := hcl.1; rw [HCUT.out] at this; simp only at this; exact this
        have HL2 : Hid ((pre ++ [c0]).length + cE.size ≤ text.size) := by have := hcl.1; rw [HCUT.out] at this; simp only at this; exact (by simp only [List.length_append, List.length_singleton]; omega : (pre ++ [c0]).length + cE.size ≤ text.size)
        have HP2 : Hid ((pre ++ [c0]) ++ linesB cE = linesB text) := by show _ = _; rw [← HPRE.out, HLC.out, HCUT.out, List.append_assoc]; rfl
        have hxl : c0.size ≤ text.size := by have := hcl.2; rw [HCUT.out] at this; simp only at this; omega
        obtain ⟨fn, tmps, assign, body, hy, hRd⟩ := HY.out cE pre c0 (wr.setCell ⟨Bs, 0, none⟩ (.string cE)) hxl (HP.out _ _ _ _ HI.out) (HR.out _ _ HRr.out) (by omega)
        dsimp only at hy
        clear hxl hcl
        gi_wp2_with (refine ⟨trivial, ?_⟩; gi_at_call 66; refine (HIB.out _).mono ?_; rintro e W3 ⟨rfl, hW3⟩; rw [hW3]; clear hW3)
        refine hRd.mono ?_
        rintro e W3 (⟨rfl, q1, q2⟩ | ⟨rfl, c, q1, q2⟩)
        · have Q1 := hid q1
          have Q2 := hid q2
          clear q1 q2 hy hRd
          gi_wp2
          go_roundw
          case rel => exact ⟨_, _, HLE.out, HL2.out, HP2.out, Q1.out, Q2.out⟩
          case measure =>
            rw [hcap]
            have := (HV.out _ _ _ Q1.out).1
            unfold capN
            rw [this]
            exact HLT.out
        · have Q1 := hid q1
          have Q2 := hid q2
          clear q1 q2 hy hRd
          gi_wp2
          refine bodyPost_ret (results_none rfl _ _ _) rfl ?_
          exact ⟨⟨_, rfl⟩, .inr ⟨_, _, c, ⟨_, by simp, HP2.out⟩, Q1.out, Q2.out⟩⟩
      · have hcut : cutL c0 = (c0.extract 0 ((nlI c0).toNat + 1), c0.extract ((nlI c0).toNat + 1) c0.size) := by unfold cutL; rw [if_neg hneg]
        obtain ⟨i, hi⟩ := Int.eq_ofNat_of_zero_le (show 0 ≤ nlI c0 by omega)
        rw [hi] at HIB hcut hnl
        have HCUT := hid hcut
        rw [Int.toNat_natCast] at HCUT
        clear hcut hneg hi
        have HLE : Hid ((c0.extract (i + 1) c0.size).size ≤ text.size) := by have := hcl.1; rw [HCUT.out] at this; simp only at this; exact (by omega : (c0.extract (i + 1) c0.size).size ≤ text.size)
        have HLT : Hid ((c0.extract (i + 1) c0.size).size < c0.size) := by have := hcl.1; rw [HCUT.out] at this; simp only at this; exact this
        have HL2 : Hid ((pre ++ [(c0.extract 0 (i + 1))]).length + (c0.extract (i + 1) c0.size).size ≤ text.size) := by have := hcl.1; rw [HCUT.out] at this; simp only at this; exact (by simp only [List.length_append, List.length_singleton]; omega : (pre ++ [(c0.extract 0 (i + 1))]).length + (c0.extract (i + 1) c0.size).size ≤ text.size)
        have HP2 : Hid ((pre ++ [(c0.extract 0 (i + 1))]) ++ linesB (c0.extract (i + 1) c0.size) = linesB text) := by show _ = _; rw [← HPRE.out, HLC.out, HCUT.out, List.append_assoc]; rfl
        have hxl : (c0.extract 0 (i + 1)).size ≤ text.size := by have := hcl.2; rw [HCUT.out] at this; simp only at this; omega
        obtain ⟨fn, tmps, assign, body, hy, hRd⟩ := HY.out (c0.extract (i + 1) c0.size) pre (c0.extract 0 (i + 1)) ((wr.setCell ⟨Bs, 0, none⟩ (.string (c0.extract (i + 1) c0.size))).drew) hxl (HD.out _ _ _ (HP.out _ _ _ _ HI.out)) (HRd.out _ (HR.out _ _ HRr.out)) (by omega)
        dsimp only at hy
        clear hxl hcl
        gi_wp2_with (refine ⟨trivial, ?_⟩; gi_at_call 66; refine (HIB.out _).mono ?_; rintro e W3 ⟨rfl, hW3⟩; rw [hW3]; clear hW3)
        refine wpIn_wide.2 ?_
        go_region
        refine ?_
        gi_wp2
        refine hRd.mono ?_
        rintro e W3 (⟨rfl, q1, q2⟩ | ⟨rfl, c, q1, q2⟩)
        · have Q1 := hid q1
          have Q2 := hid q2
          clear q1 q2 hy hRd
          gi_wp2
          go_roundw
          case rel => exact ⟨_, _, HLE.out, HL2.out, HP2.out, Q1.out, Q2.out⟩
          case measure =>
            rw [hcap]
            have := (HV.out _ _ _ Q1.out).1
            unfold capN
            rw [this]
            exact HLT.out
        · have Q1 := hid q1
          have Q2 := hid q2
          clear q1 q2 hy hRd
          gi_wp2
          refine bodyPost_ret (results_none rfl _ _ _) rfl ?_
          exact ⟨⟨_, rfl⟩, .inr ⟨_, _, c, ⟨_, by simp, HP2.out⟩, Q1.out, Q2.out⟩⟩

end Go.Proofs.YthkkdmblkalknaaGreatDoor
