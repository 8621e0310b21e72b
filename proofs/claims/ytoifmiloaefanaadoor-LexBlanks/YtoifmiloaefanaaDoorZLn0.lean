import Derived.Test.YtoifmiloaefanaaDoorZLk0
/-
  PLAIN: gaps of blanks and comments; more tokens than may be.
-/
namespace Go.Proofs.YtoifmiloaefanaaDoor

def SkOk (g : List Int) : Prop := ∀ (zs : List Int) (k : Nat) (rest : List Int), zs.drop k = g ++ rest → skA false zs k = skA false zs (k + g.length)
theorem SkOk.app {a b : List Int} (ha : SkOk a) (hb : SkOk b) : SkOk (a ++ b) := fun zs k rest h => by
  rw [List.append_assoc] at h
  rw [ha zs k _ h, hb zs (k + a.length) rest (by rw [← List.drop_drop, h, List.drop_left]), List.length_append, Nat.add_assoc]
theorem lt_of_drop {zs : List Int} {k : Nat} {z : Int} {r : List Int} (h : zs.drop k = z :: r) : k < zs.length ∧ zs.getD k 0 = z := by
  refine ⟨?_, by rw [getD_drop, h]; rfl⟩
  have := congrArg List.length h
  simp at this
  omega
theorem SkOk.blank {b : Int} (h : isBl b = true) : SkOk [b] := fun zs k rest hz => by
  obtain ⟨h1, h2⟩ := lt_of_drop (z := b) (r := rest) hz
  exact skA_blank h1 (by rw [h2]; exact h)
theorem SkOk.line {body : List Int} (h : ∀ z ∈ body, z ≠ 10) : SkOk (35 :: body ++ [10]) := fun zs k rest hz => by
  have hz' : zs.drop k = 35 :: (body ++ (10 :: rest)) := by simpa using hz
  obtain ⟨h1, h2⟩ := lt_of_drop hz'
  have hp : pasA isLn zs k = k + (body.length + 1) := by
    unfold pasA
    rw [hz', show (35 : Int) :: (body ++ (10 :: rest)) = (35 :: body) ++ (10 :: rest) from rfl, pas_app (35 :: body) (10 :: rest) (fun z hz => by
      unfold isLn
      have : z ≠ 10 := by
        rcases List.mem_cons.1 hz with rfl | hz
        · decide
        · exact h z hz
      simpa using this) (fun z hz => by simp at hz; subst hz; rfl)]
    rfl
  have hd : zs.drop (k + (body.length + 1)) = 10 :: rest := by
    rw [← List.drop_drop, hz']
    simp
  obtain ⟨h3, h4⟩ := lt_of_drop hd
  rw [skA_sharp h1 h2, hp, skA_blank h3 (by rw [h4]; rfl)]
  simp
  rfl
def comL : List Int := [35, 32, 97, 32, 34, 99, 111, 109, 109, 101, 110, 116, 34, 32, 36, 123, 255, 59, 10, 32, 9]
theorem com_ok : SkOk comL := by
  have h1 : SkOk (35 :: [32, 97, 32, 34, 99, 111, 109, 109, 101, 110, 116, 34, 32, 36, 123, 255, 59] ++ [10]) := SkOk.line (by decide)
  exact (h1.app (SkOk.blank (b := 32) rfl)).app (SkOk.blank (b := 9) rfl)
theorem gap_of {b : Int} (h : isBl b = true) (more : List Int) (hm : SkOk more) : GapOk (b :: more) := by
  refine ⟨fun zs k rest hz => (SkOk.app (a := [b]) (SkOk.blank h) hm) zs k rest hz, fun z hz => ?_⟩
  simp at hz
  subst hz
  unfold isBl at h
  unfold isWd isLet isDig
  simp at h ⊢
  omega
theorem skOk_nil : SkOk [] := fun _ _ _ _ => rfl
/-- one token too many -/
theorem lex_glue_many : ∀ (ps : List (Tk × List Int)) (zs : List Int) (k c : Nat), Glue ps → c ≤ 16384 → 16384 < c + ps.length → k ≤ zs.length → zs.drop k = glu ps → ∃ p, lexA zs k c = ([], p, 184)
  | [], zs, k, c, _, h1, h2, _, _ => by simp at h2; omega
  | (t, g) :: r, zs, k, c, hG, hc, hc2, hk, hz => by
    obtain ⟨hm, hgap, hlast, hrest⟩ := hG
    simp only at hm hgap hlast
    have hz' : zs.drop k = wrT t ++ (g ++ glu r) := hz
    have hhead : ∀ z, (g ++ glu r).head? = some z → isWd z = false := fun z h => by
      cases g with
      | nil =>
        rw [hlast rfl] at h
        simp [glu] at h
      | cons y s => exact hgap.2 z (by simpa using h)
    obtain ⟨h1, h2⟩ := tok_at hm hz' hhead
    have hlen := congrArg List.length hz'
    rw [List.length_drop, List.length_append, List.length_append] at hlen
    have hw0 := List.length_pos_iff.2 (wrT_ne hm)
    by_cases q : c = 16384
    · have hnx : nxtA zs k c = (tk0 k, k, 184) := by unfold nxtA; rw [if_pos q]
      rw [lexA_err hk (by rw [h1]; omega) (by rw [h1, hnx]; simp), h1, hnx]
      exact ⟨_, rfl⟩
    · have hnx : nxtA zs k c = (⟨t.k, t.tx, t.n, (k : Int)⟩, k + (wrT t).length, 0) := by
        unfold nxtA
        rw [if_neg q, h2]
      have hd1 : zs.drop (k + (wrT t).length) = g ++ glu r := by rw [← List.drop_drop, hz', List.drop_left]
      have hd2 : zs.drop (k + (wrT t).length + g.length) = glu r := by rw [← List.drop_drop, hd1, List.drop_left]
      obtain ⟨p, e1⟩ := lex_glue_many r zs (k + (wrT t).length + g.length) (c + 1) hrest (by omega) (by simp at hc2; omega) (by omega) hd2
      rw [lexA_ok hk (by rw [h1]; omega) (by rw [h1, hnx]), h1, hnx]
      simp only
      rw [lexA_skip (by omega) (k + (wrT t).length + g.length) (by omega) (hgap.1 zs _ _ hd1), e1]
      exact ⟨p, rfl⟩
/-- tokens with gaps that are something -/
def GpP (p : Tk × List Int) : Prop := FrT p.1 ∧ GapOk p.2 ∧ p.2 ≠ [] ∧ Pl.isB p.2
theorem glue_of : ∀ (ps : List (Tk × List Int)), (∀ p ∈ ps, GpP p) → Glue ps
  | [], _ => trivial
  | p :: r, h => by
    obtain ⟨h1, h2, h3, _⟩ := h p (by simp)
    exact ⟨h1.1, h2, fun e => absurd e h3, glue_of r (fun q hq => h q (by simp [hq]))⟩
theorem glu_app : ∀ (ps qs : List (Tk × List Int)), glu (ps ++ qs) = glu ps ++ glu qs
  | [], qs => rfl
  | p :: r, qs => by
    rw [List.cons_append, glu, glu_app r qs, glu]
    simp
theorem glu_isB : ∀ (ps : List (Tk × List Int)), (∀ p ∈ ps, GpP p) → Pl.isB (glu ps)
  | [], _ => fun z hz => by simp [glu] at hz
  | p :: r, h => fun z hz => by
    obtain ⟨h1, _, _, h4⟩ := h p (by simp)
    rw [glu] at hz
    rcases List.mem_append.1 hz with hz | hz
    · exact isB_wrT h1.1 h1.2.1.1 z hz
    rcases List.mem_append.1 hz with hz | hz
    · exact h4 z hz
    · exact glu_isB r (fun q hq => h q (by simp [hq])) z hz
theorem lexP_a : lexP [97, 32, 33] = ([], 2, 181) := by kernel_rfl

end Go.Proofs.YtoifmiloaefanaaDoor
/-
  LexBlanks: the calls of a round.
-/
namespace Go.Proofs.YtoifmiloaefanaaDoor
open Go.RowKit

theorem owB_keep {B B' : Nat} {w w' : World} {v u : Value} {ts : List Tk} {l : List Int} (hT : OwT B' w v ts) (hB : OwB B w u l) (hk : ∀ k, k < w.heap.size → some k ≠ v.ownBlock → w'.heap[k]? = w.heap[k]?) : OwB B w' u l :=
  own_keep hB fun g hg => hk g (own_blk hB hg).2.1 fun e => by
    obtain ⟨c1, h1⟩ := (own_blk hT e.symm).2.2
    obtain ⟨c2, h2⟩ := (own_blk hB hg).2.2
    rw [h1] at h2
    simp at h2
theorem owT_keep {B B' : Nat} {w w' : World} {v u : Value} {ts : List Tk} {l : List Int} (hT : OwT B' w v ts) (hB : OwB B w u l) (hk : ∀ k, k < w.heap.size → some k ≠ u.ownBlock → w'.heap[k]? = w.heap[k]?) : OwT B' w' v ts :=
  own_keep hT fun g hg => hk g (own_blk hT hg).2.1 fun e => by
    obtain ⟨c1, h1⟩ := (own_blk hT hg).2.2
    obtain ⟨c2, h2⟩ := (own_blk hB e.symm).2.2
    rw [h1] at h2
    simp at h2
theorem OwB.strG {B : Nat} {w : World} {v : Value} {l : List Int} (ty : TypeId) (h : OwB B w v l) (x : List Int) (hx : Pl.isB x) (hl : l.length + x.length ≤ 140737488355328) (hw : B ≤ w.heap.size) :
    ∃ v' w', (Builtin.append_ #[22, 9] ty #[v, .string (strOfNums x)]).run Tryd.prog w = .ok v' w' ∧ OwB B w' v' (l ++ x) ∧ Below B w w' ∧ ∀ k, k < w.heap.size → some k ≠ v.ownBlock → w'.heap[k]? = w.heap[k]? := by
  obtain ⟨i0, hi, hz0, hz1, hz2⟩ := info_parts info5
  obtain ⟨v', w', hr, h2, h3, _⟩ := Lib.run_append_own_string (P := Tryd.prog) w B 22 9 ty 5 i0 Tryd.underlying22 Tryd.underlying9 hi hz0 hz1 hz2 v l.length (l.map (Value.int .u8)) h (strOfNums x) (by rw [str_size]; unfold maxLen; omega) (by rw [str_size]; omega) hw
  refine ⟨v', w', hr, ?_, ⟨h3.os, h3.tape, h3.output, h3.size, fun k hk => h3.block k (by omega) (fun e => by have := (own_blk h e.symm).1; omega)⟩, h3.block⟩
  unfold OwB
  rw [List.length_append, List.map_append, ← strCells_eq x hx]
  rw [str_size] at h2
  exact h2
theorem owB_form {B : Nat} {w : World} {v : Value} {l : List Int} (h : OwB B w v l) : ∃ a c, v = .slice a l.length c := by
  rcases h.2 with ⟨e, q⟩ | ⟨g, cap, cur, e, _⟩
  · exact ⟨none, 0, by rw [e, q]⟩
  · exact ⟨_, cap, e⟩
/-- between two rounds -/
def BnI (w : World) (n : Nat) (sv tv iv : Value) (wr : World) : Prop := ∃ (j : Nat) (ua : Option Addr) (uc : Nat) (ta : Option Addr) (tc : Nat) (ps : List (Tk × List Int)), iv = .int .i64 (j : Int) ∧ sv = .slice ua j uc ∧ tv = .slice ta (glu ps).length tc ∧ ps.length = j ∧ j ≤ n ∧ OwT w.heap.size wr sv (ps.map (·.1)) ∧ OwB w.heap.size wr tv (glu ps) ∧ (∀ p ∈ ps, GpP p) ∧ (glu ps).length ≤ 131200 ∧ Below w.heap.size w wr
/-- the appends of a round -/
def BnA (w : World) (n j : Nat) (sv tv : Value) (U : Array Value) (V : ByteArray) (ga : Option Addr) (gn : Nat) (gs : List Int) (w4 : World) : Prop :=
  ∃ v2 w6, (Builtin.append_ #[23, 23] 23 #[sv, .slice (some ⟨w4.heap.size, 0, none⟩) 1 1]).run Tryd.prog (w4.alloc (.cells U 29)) = .ok v2 w6 ∧
  ∃ v3 w7, (Builtin.append_ #[22, 9] 22 #[tv, .string V]).run Tryd.prog w6 = .ok v3 w7 ∧ Rd w7.heap.size w7 ga gn gs ∧
  ∀ b, isBl b = true → ∃ v4 w9, (Builtin.append_ #[22, 22] 22 #[v3, .slice (some ⟨w7.heap.size, 0, none⟩) 1 1]).run Tryd.prog (w7.alloc (.cells #[.int .u8 b] 5)) = .ok v4 w9 ∧ (∀ iv, iv = .int .i64 ((j : Int) + 1) → BnI w n v2 v4 iv w9) ∧
  ∃ v5 w10, (Builtin.append_ #[22, 9] 22 #[v4, .string ⟨#[35, 32, 97, 32, 34, 99, 111, 109, 109, 101, 110, 116, 34, 32, 36, 123, 255, 59, 10, 32, 9]⟩]).run Tryd.prog w9 = .ok v5 w10 ∧ (∀ iv, iv = .int .i64 ((j : Int) + 1) → BnI w n v2 v5 iv w10)
theorem bl_isB {b : Int} (h : isBl b = true) : 0 ≤ b ∧ b ≤ 255 := by
  unfold isBl at h
  simp at h
  omega
theorem comL_isB : Pl.isB comL := by
  intro z hz
  simp [comL] at hz
  omega
theorem bna_any {w w4 : World} {n j : Nat} {sv tv : Value} {ps : List (Tk × List Int)} {u : Tk} {ga : Option Addr} {gn : Nat} {gs : List Int} (hjn : j < n) (hj : ps.length = j) (hN : n ≤ 1048576) (hT : OwT w.heap.size w4 sv (ps.map (·.1))) (hB : OwB w.heap.size w4 tv (glu ps)) (hp : ∀ p ∈ ps, GpP p) (hl : (glu ps).length ≤ 65536) (hb : Below w.heap.size w w4) (hu : FrT u) (hul : (wrT u).length ≤ 65536) (hR : Rd w.heap.size w ga gn gs) :
    BnA w n j sv tv (tcs u.k (strOfNums u.tx) u.n u.a) (strOfNums (wrT u)) ga gn gs w4 := by
  have z0 := hb.size
  have hpl : (ps.map (·.1)).length = j := by simpa using hj
  obtain ⟨v2, w6, hr2, k2, g2⟩ := OwT.push 23 (hT.next (below1 w4 (.cells (cellsT u).toArray 29))) u (heap_new _ _) (by omega) (by simp; omega)
  have hB5 := hB.next (below1 w4 (.cells (cellsT u).toArray 29))
  have hT5 := hT.next (below1 w4 (.cells (cellsT u).toArray 29))
  have hB6 : OwB w.heap.size w6 tv (glu ps) := owB_keep hT5 hB5 g2.block
  have b6 : Below w.heap.size w w6 := (hb.trans ((below1 _ _).mono z0)).trans (g2.below (by simp; omega) (fun g hg => (own_blk hT hg).1))
  have z6 := b6.size
  obtain ⟨v3, w7, hr3, k3, b37, g3⟩ := hB6.strG 22 (wrT u) (isB_wrT hu.1 hu.2.1.1) (by omega) z6
  have hT7 : OwT w.heap.size w7 v2 (ps.map (·.1) ++ [u]) := owT_keep k2 hB6 g3
  have b7 := b6.trans b37
  have z7 := b7.size
  refine ⟨v2, w6, hr2, v3, w7, hr3, ?_, fun b hbl => ?_⟩
  · obtain ⟨r1, r2, r3⟩ := hR.below b7
    refine ⟨r1, r2, r3.imp id ?_⟩
    rintro ⟨x, off, e, hx, hc⟩
    exact ⟨x, off, e, by omega, hc⟩
  obtain ⟨v4, w9, hr4, k4, g4⟩ := OwB.push 22 (k3.next (below1 w7 (.cells #[.int .u8 b] 5))) b (heap_new _ _) (by simp; omega) (by simp; omega)
  have hT9 : OwT w.heap.size w9 v2 (ps.map (·.1) ++ [u]) := owT_keep (hT7.next (below1 w7 _)) (k3.next (below1 w7 (.cells #[.int .u8 b] 5))) g4.block
  have b9 : Below w.heap.size w w9 := (b7.trans ((below1 _ _).mono z7)).trans (g4.below (by simp; omega) (fun g hg => (own_blk k3 hg).1))
  have z9 := b9.size
  obtain ⟨v5, w10, hr5, k5, b510, g5⟩ := k4.strG 22 comL comL_isB (by simp [comL]; omega) z9
  have hT10 : OwT w.heap.size w10 v2 (ps.map (·.1) ++ [u]) := owT_keep hT9 k4 g5
  obtain ⟨a2, c2, e2⟩ := k2.form
  obtain ⟨a4, c4, e4⟩ := owB_form k4
  obtain ⟨a5, c5, e5⟩ := owB_form k5
  have hbb := bl_isB hbl
  have e9 : glu (ps ++ [(u, [b])]) = glu ps ++ wrT u ++ [b] := by rw [glu_app]; simp [glu]
  have e10 : glu (ps ++ [(u, b :: comL)]) = glu ps ++ wrT u ++ [b] ++ comL := by rw [glu_app]; simp [glu]
  refine ⟨v4, w9, hr4, fun iv hiv => ?_, v5, w10, hr5, fun iv hiv => ?_⟩
  · refine ⟨j + 1, a2, c2, a4, c4, ps ++ [(u, [b])], by rw [hiv, Int.natCast_add]; rfl, by rw [e2, List.length_append, hpl]; rfl, by rw [e9]; exact e4, by simp [hj], by omega, by simpa using hT9, by rw [e9]; exact k4, fun p hpm => ?_, by rw [e9]; simp; omega, b9⟩
    rcases List.mem_append.1 hpm with hpm | hpm
    · exact hp p hpm
    · simp at hpm
      subst hpm
      exact ⟨hu, gap_of hbl [] skOk_nil, by simp, fun z hz => by simp at hz; omega⟩
  · refine ⟨j + 1, a2, c2, a5, c5, ps ++ [(u, b :: comL)], by rw [hiv, Int.natCast_add]; rfl, by rw [e2, List.length_append, hpl]; rfl, by rw [e10]; exact e5, by simp [hj], by omega, by simpa using hT10, by rw [e10]; exact k5, fun p hpm => ?_, by rw [e10]; simp [comL]; omega, b9.trans b510⟩
    rcases List.mem_append.1 hpm with hpm | hpm
    · exact hp p hpm
    · simp at hpm
      subst hpm
      refine ⟨hu, gap_of hbl comL com_ok, by simp, fun z hz => ?_⟩
      rcases List.mem_cons.1 hz with rfl | hz
      · omega
      · exact comL_isB z hz
/-- the calls of a round, up to the appends -/
def BnC (w : World) (n j : Nat) (sv tv : Value) (ga : Option Addr) (gn : Nat) (gs : List Int) (t : Tk) (wr : World) : Prop :=
  Calls Tryd.prog 10 #[tokV t] wr fun e w1 => ∃ (k' : Int) (S' : ByteArray) (n' a' : Int), e = .returned (.agg (tcs k' S' n' a')) ∧
  Calls Tryd.prog 9 #[.slice (some ⟨w1.heap.size + 1, 0, none⟩) 1 1] ((w1.alloc (.cells (tcs k' S' n' a') 29)).alloc (.cells (tcs k' S' n' a') 29)) fun e w4 => TkB w4 w1.heap.size k' S' n' a' ∧
    ((e = .returned (.tuple #[.string ⟨#[]⟩, .int .i64 180]) ∧ Calls Tryd.prog 11 #[.slice (some ⟨w4.heap.size, 0, none⟩) 1 1] (w4.alloc (.cells (tcs k' S' n' a') 29)) fun e w5 => ∃ L : Int, e = .returned (.int .i64 L) ∧ 65536 < L ∧ Below w.heap.size w w5) ∨
     (∃ V, e = .returned (.tuple #[.string V, .int .i64 0]) ∧ BnA w n j sv tv (tcs k' S' n' a') V ga gn gs w4))
theorem one_rd {w : World} {g : Nat} {u : Tk} (h : w.heap[g]? = some (.cells (tcs u.k (strOfNums u.tx) u.n u.a) 29 (0, 0))) : TkR w (some ⟨g, 0, none⟩) [u] := by
  refine .inr ⟨g, rfl, (Array.getElem?_eq_some_iff.1 h).1, fun j hj => ?_⟩
  obtain rfl : j = 0 := by simpa using hj
  simp [World.cell?, h]
theorem bnc_any {w wr : World} {n j : Nat} {sv tv : Value} {ps : List (Tk × List Int)} {t : Tk} {ga : Option Addr} {gn : Nat} {gs : List Int} (hjn : j < n) (hj : ps.length = j) (hN : n ≤ 1048576) (hT : OwT w.heap.size wr sv (ps.map (·.1))) (hB : OwB w.heap.size wr tv (glu ps)) (hp : ∀ p ∈ ps, GpP p) (hl : (glu ps).length ≤ 65536) (hb : Below w.heap.size w wr) (ht : TkH t) (hG : GT w) (hR : Rd w.heap.size w ga gn gs) : BnC w n j sv tv ga gn gs t wr := by
  refine (fair_any t wr (by have := ht.2.1; omega)).mono ?_
  rintro e w1 ⟨u, rfl, q1, q2, q3, b1⟩
  have z0 := hb.size
  have z1 := b1.size
  refine ⟨u.k, strOfNums u.tx, u.n, u.a, rfl, ?_⟩
  obtain ⟨W2, hW2⟩ : ∃ W2, W2 = w1.alloc (.cells (tcs u.k (strOfNums u.tx) u.n u.a) 29) := ⟨_, rfl⟩
  obtain ⟨W3, hW3⟩ : ∃ W3, W3 = W2.alloc (.cells (tcs u.k (strOfNums u.tx) u.n u.a) 29) := ⟨_, rfl⟩
  have b2 : Below w1.heap.size w1 W2 := by rw [hW2]; exact below1 _ _
  have b3 : Below W2.heap.size W2 W3 := by rw [hW3]; exact below1 _ _
  have s2 : W2.heap.size = w1.heap.size + 1 := by rw [hW2]; simp
  have s3 : W3.heap.size = w1.heap.size + 2 := by rw [hW3]; simp [s2]
  rw [← hW2, ← hW3]
  have r2 : TkB W2 w1.heap.size u.k (strOfNums u.tx) u.n u.a := by rw [hW2]; exact heap_new _ _
  have r3 : TkB W3 w1.heap.size u.k (strOfNums u.tx) u.n u.a := r2.keep (b3.block _ r2.lt)
  have x3 : TkB W3 (w1.heap.size + 1) u.k (strOfNums u.tx) u.n u.a := by
    have := heap_new W2 (.cells (tcs u.k (strOfNums u.tx) u.n u.a) 29)
    rw [s2, ← hW3] at this
    exact this
  have hu : FrT u := ⟨q1, q2, q3⟩
  have bw3 : Below w.heap.size w W3 := ((hb.trans (b1.mono z0)).trans (b2.mono (by omega))).trans (b3.mono (by omega))
  have hu1 : ∀ t ∈ [u], mayT t = true := fun t ht => by simp at ht; subst ht; exact q1
  refine (Untoken_all (some ⟨w1.heap.size + 1, 0, none⟩) 1 1 [u] W3 rfl (one_rd x3) (hG.next bw3) (fun t ht => by simp at ht; subst ht; exact q2.g)).mono ?_
  rintro e w4 ⟨rfl, b4⟩
  have z4 := b4.size
  have hq : untQ [u] = if 65536 < (wrT u).length then ([], 180) else (wrT u, 0) := by
    rw [untQ_may (by simp) hu1]
    rfl
  have bw4 : Below w.heap.size w w4 := bw3.trans (b4.mono (by omega))
  refine ⟨r3.keep (b4.block _ r3.lt), ?_⟩
  rw [hq]
  by_cases hlong : 65536 < (wrT u).length
  · rw [if_pos hlong]
    refine .inl ⟨rfl, ?_⟩
    have x4 : TkB (w4.alloc (.cells (tcs u.k (strOfNums u.tx) u.n u.a) 29)) w4.heap.size u.k (strOfNums u.tx) u.n u.a := heap_new _ _
    refine (weight_any (some ⟨w4.heap.size, 0, none⟩) 1 1 [u] _ rfl (by omega) (one_rd x4) hu1 (fun j _ => fr_bound (fun t ht => by simp at ht; subst ht; exact hu) (by simp) j) (fun t ht => by simp at ht; subst ht; omega)).mono ?_
    rintro e w5 ⟨rfl, rfl⟩
    exact ⟨_, rfl, by simp [jnL]; omega, bw4.trans ((below1 _ _).mono (by omega))⟩
  · rw [if_neg hlong]
    exact .inr ⟨_, rfl, bna_any hjn hj hN ((((hT.next b1).next b2).next b3).next b4) ((((hB.next b1).next b2).next b3).next b4) hp hl bw4 hu (by omega) hR⟩

end Go.Proofs.YtoifmiloaefanaaDoor
