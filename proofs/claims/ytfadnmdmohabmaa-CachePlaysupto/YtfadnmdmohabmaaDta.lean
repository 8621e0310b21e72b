/-
  The desk: its block, the book, the ledger and the lender within it. Tags: 0 the desk, 1 the program's, 2 the document's, 3 the book's, 4 the ledger's, 5 the lender's buffer, others 9.
-/
import Derived.Test.YtfadnmdmohabmaaBks
import Derived.Test.YtfadnmdmohabmaaLh6
import Derived.Test.YtfadnmdmohabmaaLdb
namespace Go.Proofs.Ytfadnmdmohabmaa
open Go.RowKit

structure Vs where
  d : Value
  c0 : Value
  c1 : Value
  r : Value
  x0 : Value
  x1 : Value
  bcnt : Nat
  btot : Nat
  bf : Value
  bh : Value
  bm : Value
  bk : Value
  bw : Value
  lcnt : Nat
  ltot : Nat
  lf : Value
  lw : Value
  lb : Value
  lk : Value
  lm : Value
  bv : Value
  N : Int
  n : Int
def Tbl (w : World) (x : Nat) (v : Vs) : Prop := w.heap[x]? = some (.cells #[v.d, v.c0, v.c1, v.r, v.x0, v.x1, .int .i64 (v.bcnt : Int), .int .i64 (v.btot : Int), .bool false, v.bf, v.bh, v.bm, v.bk, v.bw, .int .i64 (v.lcnt : Int), .int .i64 (v.ltot : Int), .bool false, v.lf, v.lw, v.lb, v.lk, v.lm, v.bv, .int .i64 v.N, .int .i64 v.n] 52 (0, 0))
theorem Tbl.lt {w : World} {x : Nat} {v : Vs} (h : Tbl w x v) : x < w.heap.size := (Array.getElem?_eq_some_iff.1 h).1
theorem Tbl.cell {w : World} {x : Nat} {v : Vs} (h : Tbl w x v) (t : Nat) : w.cell? ⟨x, t, none⟩ = #[v.d, v.c0, v.c1, v.r, v.x0, v.x1, .int .i64 (v.bcnt : Int), .int .i64 (v.btot : Int), .bool false, v.bf, v.bh, v.bm, v.bk, v.bw, .int .i64 (v.lcnt : Int), .int .i64 (v.ltot : Int), .bool false, v.lf, v.lw, v.lb, v.lk, v.lm, v.bv, .int .i64 v.N, .int .i64 v.n][t]? := by
  unfold Tbl at h
  simp [World.cell?, h]
theorem Tbl.frozen {w : World} {x : Nat} {v : Vs} (h : Tbl w x v) (t : Nat) : w.frozen? ⟨x, t, none⟩ = false := by
  unfold Tbl at h
  simp [World.frozen?, h]
def Vs.oB (v : Vs) : Oth := ⟨v.d, v.c0, v.c1, v.r, v.x0, v.x1, .int .i64 (v.lcnt : Int), .int .i64 (v.ltot : Int), .bool false, v.lf, v.lw, v.lb, v.lk, v.lm, v.bv, .int .i64 v.N, .int .i64 v.n⟩
def Vs.oL (v : Vs) : Oth := ⟨v.d, v.c0, v.c1, v.r, v.x0, v.x1, .int .i64 (v.bcnt : Int), .int .i64 (v.btot : Int), .bool false, v.bf, v.bh, v.bm, v.bk, v.bw, v.bv, .int .i64 v.N, .int .i64 v.n⟩
def Vs.oD (v : Vs) : DV := ⟨v.d, v.c0, v.c1, v.r, v.x0, v.x1, .int .i64 (v.bcnt : Int), .int .i64 (v.btot : Int), .bool false, v.bf, v.bh, v.bm, v.bk, v.bw, .int .i64 (v.lcnt : Int), .int .i64 (v.ltot : Int), .bool false, v.lf, v.lw, v.lb, v.lk, v.lm, .int .i64 v.n⟩
theorem Tbl.bkb {w : World} {x : Nat} {v : Vs} (h : Tbl w x v) : Bkb v.oB w x v.bcnt v.btot false v.bf v.bh v.bm v.bk v.bw := h
theorem Tbl.inb {w : World} {x : Nat} {v : Vs} (h : Tbl w x v) : Inb v.oL w x v.lcnt v.ltot v.lf v.lw v.lb v.lk v.lm := h
theorem Tbl.lnd {w : World} {x : Nat} {v : Vs} (h : Tbl w x v) : Lnd v.oD w x v.bv v.N := h

/-- the desk's block is another one now, the book's lists are as they were -/
theorem Bok1.swap {ω ω2 : Oth} {B : Nat} {X : Nat → Prop} {w w' : World} {b cnt tot nK : Nat} {R : Nat → Prop} {fr he ma ke wa : Value} {n : Nat} {fv hv : List Value} {ms : List Int} {kv wv : List Value} {K Z : Nat → List Int} (h : Bok1 ω B X w b cnt tot nK R fr he ma ke wa n fv hv ms kv wv K Z) (hb : Bkb ω2 w' b cnt tot false fr he ma ke wa) (hk : ∀ y, y < w.heap.size → X y → y ≠ b → w'.heap[y]? = w.heap[y]?) : Bok1 ω2 B X w' b cnt tot nK R fr he ma ke wa n fv hv ms kv wv K Z := by
  have kT : ∀ g, T5 w g → X g → w'.heap[g]? = w.heap[g]? := fun g hg hX => hk g hg.lt hX (h.bk.blk.ne_t5 hg)
  have kR : ∀ g, R g → w'.heap[g]? = w.heap[g]? := fun g hg => kT g (h.bk.rT g hg) (h.xx g (.inr (.inr (.inr (.inr (.inr (.inr (.inl hg))))))))
  have kO : ∀ {e s m : Nat} {v : Value} {xs : List Value}, w.ownsRow B e s v m xs → e ≠ 52 → (∀ g, v.ownBlock = some g → X g) → w'.ownsRow B e s v m xs := fun hr he hX => owns_keep hr (fun g hg => hk g (World.ownsRow.lt hr g hg).2 (hX g hg) (fun e => h.bk.blk.ne_row hr he (by rw [← e]; exact hg)))
  refine ⟨h.hn, h.hml, h.hms, h.hZ, ⟨hb, h.bk.bB, kO h.bk.oF (by decide) (fun g q => h.xx g (.inr (.inl q))), kO h.bk.oH (by decide) (fun g q => h.xx g (.inr (.inr (.inl q)))), kO h.bk.oM (by decide) (fun g q => h.xx g (.inr (.inr (.inr (.inl q))))), h.bk.rK.keep (kO h.bk.rK.own (by decide) (fun g q => h.xx g (.inr (.inr (.inr (.inr (.inl q))))))) kR, h.bk.rW.keep (kO h.bk.rW.own (by decide) (fun g q => h.xx g (.inr (.inr (.inr (.inr (.inr (.inl q)))))))) kR, h.bk.dFH, h.bk.dFK, h.bk.dFW, h.bk.dHK, h.bk.dHW, h.bk.dKW, fun g hg => (h.bk.rT g hg).keep (kR g hg)⟩,
    h.fs.keep (fun i g hi hg => kT g (h.fs.own hi hg).1.t5 (h.xx g (.inr (.inr (.inr (.inr (.inr (.inr (.inr ⟨i, hi, hg⟩))))))))), fun i hi => (h.hd i hi).keep kR, h.xx⟩
theorem Bok1.more {ω : Oth} {B : Nat} {X Y : Nat → Prop} {w : World} {b cnt tot nK : Nat} {R : Nat → Prop} {fr he ma ke wa : Value} {n : Nat} {fv hv : List Value} {ms : List Int} {kv wv : List Value} {K Z : Nat → List Int} (h : Bok1 ω B X w b cnt tot nK R fr he ma ke wa n fv hv ms kv wv K Z) (hXY : ∀ x, x < w.heap.size → X x → Y x) : Bok1 ω B Y w b cnt tot nK R fr he ma ke wa n fv hv ms kv wv K Z := by
  refine ⟨h.hn, h.hml, h.hms, h.hZ, h.bk, h.fs, h.hd, fun x hx => hXY x ?_ (h.xx x hx)⟩
  rcases hx with q | q | q | q | q | q | q | ⟨j, hj, q⟩
  · rw [q]; exact h.bk.blk.lt
  · exact (World.ownsRow.lt h.bk.oF x q).2
  · exact (World.ownsRow.lt h.bk.oH x q).2
  · exact (World.ownsRow.lt h.bk.oM x q).2
  · exact (World.ownsRow.lt h.bk.rK.own x q).2
  · exact (World.ownsRow.lt h.bk.rW.own x q).2
  · exact (h.bk.rT x q).lt
  · exact (h.fs.own hj q).1.lt
/-- so too the ledger's -/
theorem In.swap {ω ω2 : Oth} {B : Nat} {κ κ2 : Nat → Nat} {w w' : World} {q : Nat} {cnt tot : Int} {lo n nK nM : Nat} {fr wa ba ke ma : Value} {fv hv kv : List Value} {bs : List Int} {wv : List Value} {Z K : Nat → List Int}
    (h : In ω B κ w q cnt tot lo n nK nM fr wa ba ke ma fv hv kv bs wv Z K) (hb : Inb ω2 w' q cnt tot fr wa ba ke ma) (hs : w.heap.size ≤ w'.heap.size) (hn : n ≤ 90) (hk : ∀ y, y < w.heap.size → κ y ≠ 200 → y ≠ q → w'.heap[y]? = w.heap[y]?) (hκ : ∀ y, y < w.heap.size → κ2 y = κ y) : In ω2 B κ2 w' q cnt tot lo n nK nM fr wa ba ke ma fv hv kv bs wv Z K := by
  have nq : ∀ g, κ g ≠ 0 → g ≠ q := fun g hg e => hg (by rw [e]; exact h.kq)
  have row : ∀ {e m s : Nat} {v : Value} {xs : List Value}, w.ownsRow B e 1 v m xs → (∀ g, v.ownBlock = some g → κ g = s) → s ≠ 0 → s ≠ 200 → w'.ownsRow B e 1 v m xs ∧ ∀ g, v.ownBlock = some g → κ2 g = s := fun hr hg h0 h2 =>
    ⟨owns_keep hr (fun g e => hk g (World.ownsRow.lt hr g e).2 (by rw [hg g e]; exact h2) (nq g (by rw [hg g e]; exact h0))), fun g e => by rw [hκ g (World.ownsRow.lt hr g e).2]; exact hg g e⟩
  have sl : ∀ {v : Value} {zs : List Int}, Sl3 κ w v zs → Sl3 κ2 w' v zs := fun hv => hv.keep hs (fun g hg e => hk g hg (by omega) (nq g (by omega))) (fun g hg e => by rw [hκ g hg]; exact e)
  refine ⟨hb, by rw [hκ q h.blk.lt]; exact h.kq, h.qB, (row h.oF h.kF (by decide) (by decide)).1, (row h.oF h.kF (by decide) (by decide)).2, (row h.oW h.kW (by decide) (by decide)).1, (row h.oW h.kW (by decide) (by decide)).2, (row h.oB h.kB (by decide) (by decide)).1, (row h.oB h.kB (by decide) (by decide)).2, (row h.oK h.kK (by decide) (by decide)).1, (row h.oK h.kK (by decide) (by decide)).2, (row h.oM h.kM (by decide) (by decide)).1, (row h.oM h.kM (by decide) (by decide)).2, fun i h1 h2 => ?_, fun j hj => sl (h.ks j hj), fun j hj => sl (h.ws j hj)⟩
  rcases h.fs i h1 h2 with e | ⟨g, q1, q2, q3, q4⟩
  · exact .inl e
  · exact .inr ⟨g, q1, q2.of_block (hk g q2.lt (by omega) (nq g (by omega))), by rw [hκ g q2.lt]; exact q3, q4⟩
theorem InS.swap {ω ω2 : Oth} {B : Nat} {κ κ2 : Nat → Nat} {w w' : World} {q cnt tot : Nat} {fr wa ba ke ma : Value} (h : InS ω B κ w q cnt tot fr wa ba ke ma) (hb : Inb ω2 w' q cnt tot fr wa ba ke ma) (hs : w.heap.size ≤ w'.heap.size) (hk : ∀ y, y < w.heap.size → κ y ≠ 200 → y ≠ q → w'.heap[y]? = w.heap[y]?) (hκ : ∀ y, y < w.heap.size → κ2 y = κ y) : InS ω2 B κ2 w' q cnt tot fr wa ba ke ma := by
  obtain ⟨n, nK, fv, hv, kv, bs, wv, Z, K, h1, h2, h3, h4, h5, h6⟩ := h
  exact ⟨n, nK, fv, hv, kv, bs, wv, Z, K, h1.swap hb hs (by omega) hk hκ, fun i hi => (h2 i hi).keep hs (fun g hg e => hk g hg (by omega) (fun e2 => by have := h1.kq; rw [← e2] at this; omega)) (fun g hg e => by rw [hκ g hg]; exact e), h3, h4, h5, h6⟩
/-- what lies from S on is others' -/
def cutK (κ : Nat → Nat) (S y : Nat) : Nat := if y < S then κ y else 200
theorem cutK_lo {κ : Nat → Nat} {S y : Nat} (h : y < S) : cutK κ S y = κ y := if_pos h
theorem cutK_hi {κ : Nat → Nat} {S y : Nat} (h : ¬ y < S) : cutK κ S y = 200 := if_neg h

structure Dt (τ : Nat → Nat) (w : World) (x : Nat) (v : Vs) (nK : Nat) : Prop where
  tbl : Tbl w x v
  tx : τ x = 0
  bok : ∃ R n fv hv ms kv wv K Z, Bok1 v.oB 0 (fun y => τ y = 3 ∨ y = x) w x v.bcnt v.btot nK R v.bf v.bh v.bm v.bk v.bw n fv hv ms kv wv K Z
  led : ∃ κ, InS v.oL 0 κ w x v.lcnt v.ltot v.lf v.lw v.lb v.lk v.lm ∧ ∀ y, y < w.heap.size → κ y ≠ 200 → y = x ∨ τ y = 4
  buf : v.bv = .slice none 0 0 ∨ ∃ G M ys, v.bv = .slice (some ⟨G, 0, none⟩) M M ∧ Blk .u8 5 w G ys ∧ ys.length = M ∧ M ≤ 67109376 ∧ τ G = 5
/-- the desk's block is another one now; all of the desk's own lists are as they were -/
theorem Dt.re {τ τ' : Nat → Nat} {w w' : World} {x : Nat} {v v' : Vs} {nK : Nat} (h : Dt τ w x v nK) (ht : Tbl w' x v') (hs : w.heap.size ≤ w'.heap.size) (hk : ∀ y, y < w.heap.size → τ y = 3 ∨ τ y = 4 ∨ τ y = 5 → w'.heap[y]? = w.heap[y]?) (hτ : ∀ y, y < w.heap.size → τ' y = τ y)
    (e1 : v'.bcnt = v.bcnt) (e2 : v'.btot = v.btot) (e3 : v'.bf = v.bf) (e4 : v'.bh = v.bh) (e5 : v'.bm = v.bm) (e6 : v'.bk = v.bk) (e7 : v'.bw = v.bw) (l1 : v'.lcnt = v.lcnt) (l2 : v'.ltot = v.ltot) (l3 : v'.lf = v.lf) (l4 : v'.lw = v.lw) (l5 : v'.lb = v.lb) (l6 : v'.lk = v.lk) (l7 : v'.lm = v.lm) (eb : v'.bv = v.bv) : Dt τ' w' x v' nK := by
  have hxl := h.tbl.lt
  obtain ⟨R, n, fv, hv, ms, kv, wv, K, Z, hB⟩ := h.bok
  obtain ⟨κ, hL, hκ⟩ := h.led
  refine ⟨ht, by rw [hτ x hxl]; exact h.tx, ⟨R, n, fv, hv, ms, kv, wv, K, Z, ?_⟩, ⟨cutK κ w.heap.size, ?_, fun y hy hne => ?_⟩, ?_⟩
  · have hb := ht.bkb
    rw [e1, e2, e3, e4, e5, e6, e7] at hb ⊢
    refine (hB.more (Y := fun y => τ' y = 3 ∨ y = x) (fun y hy q => q.imp (fun q => (hτ y hy).trans q) id)).swap hb (fun y hy q hne => hk y hy (.inl ?_))
    rcases q with q | q
    · rw [← hτ y hy]; exact q
    · exact absurd q hne
  · have hb := ht.inb
    rw [l1, l2, l3, l4, l5, l6, l7] at hb ⊢
    exact hL.swap hb hs (fun y hy h2 hne => hk y hy (.inr (.inl ((hκ y hy h2).resolve_left hne)))) (fun y hy => cutK_lo hy)
  · by_cases hy' : y < w.heap.size
    · rw [cutK_lo hy'] at hne
      rw [hτ y hy']
      exact hκ y hy' hne
    · exact absurd (cutK_hi hy') hne
  · rw [eb]
    rcases h.buf with q | ⟨G, M, ys, q1, q2, q3, q4, q5⟩
    · exact .inl q
    · exact .inr ⟨G, M, ys, q1, q2.of_block (hk G q2.lt (.inr (.inr q5))), q3, q4, by rw [hτ G q2.lt]; exact q5⟩
theorem Dt.keep {τ τ' : Nat → Nat} {w w' : World} {x : Nat} {v : Vs} {nK : Nat} (h : Dt τ w x v nK) (hs : w.heap.size ≤ w'.heap.size) (hk : ∀ y, y < w.heap.size → τ y = 0 ∨ τ y = 3 ∨ τ y = 4 ∨ τ y = 5 → w'.heap[y]? = w.heap[y]?) (hτ : ∀ y, y < w.heap.size → τ' y = τ y) : Dt τ' w' x v nK :=
  h.re ((hk x h.tbl.lt (.inl h.tx)).trans h.tbl) hs (fun y hy q => hk y hy (.inr q)) hτ rfl rfl rfl rfl rfl rfl rfl rfl rfl rfl rfl rfl rfl rfl rfl
theorem Dt.but {τ τ' : Nat → Nat} {U : Nat → Prop} {w w' : World} {x : Nat} {v : Vs} {nK : Nat} (h : Dt τ w x v nK) (hb : But U w w') (hU : ∀ y, y < w.heap.size → U y → τ y ≠ 0 ∧ τ y ≠ 3 ∧ τ y ≠ 4 ∧ τ y ≠ 5) (hτ : ∀ y, y < w.heap.size → τ' y = τ y) : Dt τ' w' x v nK :=
  h.keep hb.size (fun y hy q => hb.block y hy (fun q' => by have := hU y hy q'; omega)) hτ
theorem Dt.below {τ τ' : Nat → Nat} {w w' : World} {x : Nat} {v : Vs} {nK : Nat} (h : Dt τ w x v nK) (hb : Below w.heap.size w w') (hτ : ∀ y, y < w.heap.size → τ' y = τ y) : Dt τ' w' x v nK :=
  h.keep hb.size (fun y hy _ => hb.block y hy) hτ
theorem Dt.setn {τ : Nat → Nat} {w : World} {x : Nat} {v : Vs} {nK : Nat} (h : Dt τ w x v nK) (n' : Int) : Dt τ (w.setCell ⟨x, 24, none⟩ (.int .i64 n')) x { v with n := n' } nK := by
  have ht : Tbl (w.setCell ⟨x, 24, none⟩ (.int .i64 n')) x { v with n := n' } := by
    have := h.tbl
    unfold Tbl at this ⊢
    simp only [World.setCell, Array.getElem?_modify]
    rw [this]
    simp
  exact h.re ht (by simp [World.setCell]) (fun y hy q => Below.heap_setCell _ _ _ _ (show y ≠ x from fun e => by have := h.tx; rw [← e] at this; omega)) (fun _ _ => rfl) rfl rfl rfl rfl rfl rfl rfl rfl rfl rfl rfl rfl rfl rfl rfl

end Go.Proofs.Ytfadnmdmohabmaa

/-
  The desk: what the book, the ledger and the lender do to it.
-/
namespace Go.Proofs.Ytfadnmdmohabmaa
open Go.RowKit

/-- what is new, and block g (if it is one), bears the tag t -/
def tgN (τ : Nat → Nat) (S : Nat) (al : Option Addr) (t y : Nat) : Nat := if S ≤ y ∨ al = some ⟨y, 0, none⟩ then t else τ y
theorem tgN_lo {τ : Nat → Nat} {S : Nat} {al : Option Addr} {t y : Nat} (h : y < S) (h2 : al ≠ some ⟨y, 0, none⟩) : tgN τ S al t y = τ y := if_neg (fun q => q.elim (fun q => by omega) h2)
theorem tgN_hi {τ : Nat → Nat} {S : Nat} {al : Option Addr} {t y : Nat} (h : S ≤ y) : tgN τ S al t y = t := if_pos (.inl h)
theorem tgN_at {τ : Nat → Nat} {S : Nat} {al : Option Addr} {t y : Nat} (h : al = some ⟨y, 0, none⟩) : tgN τ S al t y = t := if_pos (.inr h)
theorem own_al {al : Option Addr} {n c y : Nat} (h : al = none ∨ ∃ g, al = some ⟨g, 0, none⟩) : (Value.slice al n c).ownBlock = some y ↔ al = some ⟨y, 0, none⟩ := by
  rcases h with rfl | ⟨g, rfl⟩
  · exact ⟨(fun e => by cases e), (fun e => by cases e)⟩
  · exact ⟨(fun e => by cases e; rfl), (fun e => by cases e; rfl)⟩
/-- the book is another one now -/
theorem Dt.book {τ τ' : Nat → Nat} {w w' : World} {x : Nat} {v : Vs} {nK nK' c' t' : Nat} {U X : Nat → Prop} (h : Dt τ w x v nK) (hB : Bok v.oB 0 X w' x c' t' nK') (hb : But U w w') (hU : ∀ y, y < w.heap.size → U y → y = x ∨ (τ y ≠ 4 ∧ τ y ≠ 5)) (hX : ∀ y, y < w'.heap.size → X y → τ' y = 3 ∨ y = x) (hτ : ∀ y, y < w.heap.size → τ y = 0 ∨ τ y = 4 ∨ τ y = 5 → τ' y = τ y) :
    ∃ bf bh bm bk bw, Dt τ' w' x { v with bcnt := c', btot := t', bf := bf, bh := bh, bm := bm, bk := bk, bw := bw } nK' := by
  obtain ⟨R, fr, he, ma, ke, wa, n, fv, hv, ms, kv, wv, K, Z, hB⟩ := hB
  obtain ⟨κ, hL, hκ⟩ := h.led
  have hs := hb.size
  refine ⟨fr, he, ma, ke, wa, hB.bk.blk, by rw [hτ x h.tbl.lt (.inl h.tx)]; exact h.tx, ⟨R, n, fv, hv, ms, kv, wv, K, Z, hB.more hX⟩, ⟨cutK κ w.heap.size, hL.swap (show Inb _ w' x _ _ _ _ _ _ _ from hB.bk.blk) hs (fun y hy h2 hne => hb.block y hy (fun q => ?_)) (fun y hy => cutK_lo hy), fun y hy hne => ?_⟩, ?_⟩
  · have h4 := (hκ y hy h2).resolve_left hne
    rcases hU y hy q with e | ⟨e, _⟩
    · exact hne e
    · exact e h4
  · by_cases hy' : y < w.heap.size
    · rw [cutK_lo hy'] at hne
      rcases hκ y hy' hne with e | e
      · exact .inl e
      · exact .inr (by rw [hτ y hy' (.inr (.inl e))]; exact e)
    · exact absurd (cutK_hi hy') hne
  · rcases h.buf with q | ⟨G, M, ys, q1, q2, q3, q4, q5⟩
    · exact .inl q
    · refine .inr ⟨G, M, ys, q1, q2.of_block (hb.block G q2.lt (fun q => ?_)), q3, q4, by rw [hτ G q2.lt (.inr (.inr q5))]; exact q5⟩
      rcases hU G q2.lt q with e | ⟨_, e⟩
      · have := h.tx
        rw [← e] at this
        omega
      · exact e q5
theorem Dt.ofBook {τ : Nat → Nat} {w : World} {x : Nat} {v : Vs} {nK : Nat} (h : Dt τ w x v nK) : Bok v.oB 0 (fun y => τ y = 3 ∨ y = x) w x v.bcnt v.btot nK := by
  obtain ⟨R, n, fv, hv, ms, kv, wv, K, Z, hB⟩ := h.bok
  exact ⟨R, _, _, _, _, _, n, fv, hv, ms, kv, wv, K, Z, hB⟩
/-- Own of bytes -/
theorem Dt.bown {τ : Nat → Nat} {w : World} {x : Nat} {v : Vs} {nK : Nat} (h : Dt τ w x v nK) (al : Option Addr) (cl : Nat) (zs : List Int) (mark : Int) (hnK : nK ≤ 67108864) (hc : v.bcnt ≤ 8388608) (ht : v.btot + zs.length ≤ 1073741754) (hzl : zs.length ≤ 268435456) (hm0 : 0 ≤ mark) (hm1 : mark ≤ 268435456) (hz : Pl.isB zs)
    (hl : (al = none ∧ zs = [] ∧ cl = 0) ∨ ∃ g, al = some ⟨g, 0, none⟩ ∧ Own w g zs.length cl zs ∧ τ g = 9) :
    Calls Try.prog 75 #[.pointer (some ⟨x, 6, none⟩), .slice al zs.length cl, .int .i64 mark] w fun e w' => e = .returned (.tuple #[]) ∧ ∃ nK' bf bh bm bk bw, nK' ≤ nK + 15 ∧ Dt (tgN τ w.heap.size al 3) w' x { v with bcnt := v.bcnt + 1, btot := v.btot + zs.length, bf := bf, bh := bh, bm := bm, bk := bk, bw := bw } nK' ∧ But (fun y => τ y = 3 ∨ y = x ∨ al = some ⟨y, 0, none⟩) w w' := by
  have hal : al = none ∨ ∃ g, al = some ⟨g, 0, none⟩ := hl.imp (fun q => q.1) (fun ⟨g, q, _⟩ => ⟨g, q⟩)
  have h9 : ∀ y, al = some ⟨y, 0, none⟩ → τ y = 9 := fun y e => by
    rcases hl with ⟨q, _⟩ | ⟨g, q, _, q2⟩
    · rw [q] at e; cases e
    · rw [q] at e; cases e; exact q2
  have hx9 : ∀ y, al = some ⟨y, 0, none⟩ → y ≠ x := fun y e e2 => by have := h9 y e; have := h.tx; rw [e2] at *; omega
  refine Calls.mono (Own_any 0 _ w x v.bcnt v.btot nK al cl zs mark (Nat.zero_le _) hnK hc ht hzl hm0 hm1 h.ofBook hz (hl.imp id (fun ⟨g, q1, q2, q3⟩ => ⟨g, q1, q2, fun q => q.elim (fun q => by omega) (hx9 g q1), Nat.zero_le _⟩))) ?_
  rintro e w' ⟨rfl, nK', hn, hB, hb⟩
  have f1 : ∀ y, y < w.heap.size → ((τ y = 3 ∨ y = x) ∨ (Value.slice al zs.length cl).ownBlock = some y) → y = x ∨ (τ y ≠ 4 ∧ τ y ≠ 5) := fun y hy q => by
    rcases q with (q | q) | q
    · exact .inr ⟨by omega, by omega⟩
    · exact .inl q
    · have := h9 y ((own_al hal).1 q)
      exact .inr ⟨by omega, by omega⟩
  have f2 : ∀ y, y < w'.heap.size → ((τ y = 3 ∨ y = x) ∨ (Value.slice al zs.length cl).ownBlock = some y ∨ w.heap.size ≤ y) → tgN τ w.heap.size al 3 y = 3 ∨ y = x := fun y hy q => by
    rcases q with (q | q) | q | q
    · left
      unfold tgN
      split
      · rfl
      · exact q
    · exact .inr q
    · exact .inl (tgN_at ((own_al hal).1 q))
    · exact .inl (tgN_hi q)
  obtain ⟨bf, bh, bm, bk, bw, hD⟩ := h.book (τ' := tgN τ w.heap.size al 3) hB hb f1 f2 (fun y hy q => tgN_lo hy (fun e => by have := h9 y e; omega))
  refine ⟨rfl, nK', bf, bh, bm, bk, bw, hn, hD, hb.mono (fun y _ q => ?_)⟩
  rcases q with (q | q) | q
  · exact .inl q
  · exact .inr (.inl q)
  · exact .inr (.inr ((own_al hal).1 q))
theorem Dt.bholds {τ : Nat → Nat} {w : World} {x : Nat} {v : Vs} {nK : Nat} (h : Dt τ w x v nK) (hnK : nK ≤ 134217728) :
    Calls Try.prog 9 #[.pointer (some ⟨x, 6, none⟩)] w fun e w' => e = .returned (.bool true) ∧ ∃ bf bh bm bk bw, Dt τ w' x { v with bf := bf, bh := bh, bm := bm, bk := bk, bw := bw } nK ∧ But (fun y => τ y = 3 ∨ y = x) w w' := by
  refine Calls.mono (Holds_any 0 _ w x v.bcnt v.btot nK hnK h.ofBook) ?_
  rintro e w' ⟨rfl, hB, hb⟩
  obtain ⟨bf, bh, bm, bk, bw, hD⟩ := h.book (τ' := τ) hB hb (fun y hy q => q.elim (fun q => .inr ⟨by omega, by omega⟩) .inl) (fun _ _ q => q) (fun _ _ _ => rfl)
  exact ⟨rfl, bf, bh, bm, bk, bw, hD, hb⟩
/-- the ledger is another one now -/
theorem Dt.ledger {τ τ' κ : Nat → Nat} {w w' : World} {x : Nat} {v : Vs} {nK c' t' : Nat} {lf lw lb lk lm : Value} {U : Nat → Prop} (h : Dt τ w x v nK) (hL : InS v.oL 0 κ w' x c' t' lf lw lb lk lm) (hb : But U w w') (hU : ∀ y, y < w.heap.size → U y → y = x ∨ (τ y ≠ 3 ∧ τ y ≠ 5)) (hκ : ∀ y, y < w'.heap.size → κ y ≠ 200 → y = x ∨ τ' y = 4) (hτ : ∀ y, y < w.heap.size → τ y = 0 ∨ τ y = 3 ∨ τ y = 5 → τ' y = τ y) :
    Dt τ' w' x { v with lcnt := c', ltot := t', lf := lf, lw := lw, lb := lb, lk := lk, lm := lm } nK := by
  obtain ⟨R, n, fv, hv, ms, kv, wv, K, Z, hB⟩ := h.bok
  have ht : Tbl w' x { v with lcnt := c', ltot := t', lf := lf, lw := lw, lb := lb, lk := lk, lm := lm } := by
    obtain ⟨_, _, _, _, _, _, _, _, _, h1, _⟩ := hL
    exact h1.blk
  refine ⟨ht, by rw [hτ x h.tbl.lt (.inl h.tx)]; exact h.tx, ⟨R, n, fv, hv, ms, kv, wv, K, Z, ((hB.more (Y := fun y => (τ y = 3 ∨ y = x) ∧ y < w.heap.size) (fun y hy q => ⟨q, hy⟩)).swap ht.bkb (fun y hy q hne => hb.block y hy (fun q' => ?_))).more (fun y _ q => q.1.imp (fun q3 => (hτ y q.2 (.inr (.inl q3))).trans q3) id)⟩, ⟨κ, hL, hκ⟩, ?_⟩
  · have h3 := q.1.resolve_right hne
    rcases hU y hy q' with e | ⟨e, _⟩
    · exact hne e
    · exact e h3
  · rcases h.buf with q | ⟨G, M, ys, q1, q2, q3, q4, q5⟩
    · exact .inl q
    · refine .inr ⟨G, M, ys, q1, q2.of_block (hb.block G q2.lt (fun q => ?_)), q3, q4, by rw [hτ G q2.lt (.inr (.inr q5))]; exact q5⟩
      rcases hU G q2.lt q with e | ⟨_, e⟩
      · have := h.tx
        rw [← e] at this
        omega
      · exact e q5
theorem Dt.cutL {τ : Nat → Nat} {w : World} {x : Nat} {v : Vs} {nK : Nat} (h : Dt τ w x v nK) : ∃ κ, InS v.oL 0 κ w x v.lcnt v.ltot v.lf v.lw v.lb v.lk v.lm ∧ ∀ y, κ y ≠ 200 → y < w.heap.size ∧ (y = x ∨ τ y = 4) := by
  obtain ⟨κ, hL, hκ⟩ := h.led
  refine ⟨cutK κ w.heap.size, hL.swap h.tbl.inb (Nat.le_refl _) (fun _ _ _ _ => rfl) (fun y hy => cutK_lo hy), fun y hne => ?_⟩
  by_cases hy : y < w.heap.size
  · rw [cutK_lo hy] at hne
    exact ⟨hy, hκ y hy hne⟩
  · exact absurd (cutK_hi hy) hne
/-- Own of numbers -/
theorem Dt.lown {τ : Nat → Nat} {w : World} {x : Nat} {v : Vs} {nK : Nat} (h : Dt τ w x v nK) (al : Option Addr) (zs : List Int) (mark : Int) (hm0 : 0 ≤ mark) (hm1 : mark ≤ 1000) (hc : v.lcnt ≤ 16777216) (ht : v.ltot + zs.length ≤ 4294967296) (hz : zs.length ≤ 16777216)
    (hl : (al = none ∧ zs = []) ∨ ∃ g, al = some ⟨g, 0, none⟩ ∧ Blk .i64 3 w g zs ∧ τ g = 9) :
    Calls Try.prog 47 #[.pointer (some ⟨x, 14, none⟩), .slice al zs.length zs.length, .int .i64 mark] w fun e w' => e = .returned (.tuple #[]) ∧ ∃ lf lw lb lk lm, Dt (tgN τ w.heap.size al 4) w' x { v with lcnt := v.lcnt + 1, ltot := v.ltot + zs.length, lf := lf, lw := lw, lb := lb, lk := lk, lm := lm } nK ∧ But (fun y => τ y = 4 ∨ y = x ∨ al = some ⟨y, 0, none⟩) w w' := by
  have hal : al = none ∨ ∃ g, al = some ⟨g, 0, none⟩ := hl.imp (fun q => q.1) (fun ⟨g, q, _⟩ => ⟨g, q⟩)
  have h9 : ∀ y, al = some ⟨y, 0, none⟩ → τ y = 9 := fun y e => by
    rcases hl with ⟨q, _⟩ | ⟨g, q, _, q2⟩
    · rw [q] at e; cases e
    · rw [q] at e; cases e; exact q2
  have hx9 : ∀ y, al = some ⟨y, 0, none⟩ → y ≠ x := fun y e e2 => by have := h9 y e; have := h.tx; rw [e2] at *; omega
  obtain ⟨κ, hL, hκ⟩ := h.cutL
  have h200 : ∀ g, al = some ⟨g, 0, none⟩ → κ g = 200 := fun g q1 => Classical.byContradiction (fun hne => by
    have := h9 g q1
    rcases (hκ g hne).2 with e | e
    · exact hx9 g q1 e
    · omega)
  refine Calls.mono (lown_any 0 κ w x v.lcnt v.ltot _ _ _ _ _ mark hm0 hm1 al zs hc ht hz hL (hl.imp id (fun ⟨g, q1, q2, q3⟩ => ⟨g, q1, q2, h200 g q1, Nat.zero_le _⟩))) ?_
  · rintro e w' ⟨rfl, κ', lf, lw, lb, lk, lm, hL', hκ', hb⟩
    have g1 : ∀ y, (κ y ≤ 90 ∨ (Value.slice al zs.length zs.length).ownBlock = some y) → τ y = 4 ∨ y = x ∨ al = some ⟨y, 0, none⟩ := fun y q => by
      rcases q with q | q
      · rcases (hκ y (by omega)).2 with e | e
        · exact .inr (.inl e)
        · exact .inl e
      · exact .inr (.inr ((own_al hal).1 q))
    have f1 : ∀ y, y < w.heap.size → (κ y ≤ 90 ∨ (Value.slice al zs.length zs.length).ownBlock = some y) → y = x ∨ (τ y ≠ 3 ∧ τ y ≠ 5) := fun y hy q => by
      rcases g1 y q with e | e | e
      · exact .inr ⟨by omega, by omega⟩
      · exact .inl e
      · have := h9 y e
        exact .inr ⟨by omega, by omega⟩
    have f2 : ∀ y, y < w'.heap.size → κ' y ≠ 200 → y = x ∨ tgN τ w.heap.size al 4 y = 4 := fun y hy hne => by
      by_cases hy' : y < w.heap.size
      · by_cases ha : al = some ⟨y, 0, none⟩
        · exact .inr (tgN_at ha)
        · rw [tgN_lo hy' ha]
          refine (hκ y (fun e => hne (hκ' y hy' e (fun q => ha ((own_al hal).1 q))))).2
      · exact .inr (tgN_hi (by omega))
    exact ⟨rfl, lf, lw, lb, lk, lm, h.ledger (τ' := tgN τ w.heap.size al 4) hL' hb f1 f2 (fun y hy q => tgN_lo hy (fun e => by have := h9 y e; omega)), hb.mono (fun y _ q => g1 y q)⟩
theorem Dt.lholds {τ : Nat → Nat} {w : World} {x : Nat} {v : Vs} {nK : Nat} (h : Dt τ w x v nK) (hc : v.lcnt ≤ 16777216) :
    Calls Try.prog 10 #[.pointer (some ⟨x, 14, none⟩)] w fun e w' => e = .returned (.bool true) ∧ Dt τ w' x v nK ∧ But (fun y => y = x) w w' := by
  obtain ⟨κ, ⟨n, nM, fv, hv, kv, bs, wv, Z, K, h1, h2, h3, h4, h5, h6⟩, hκ⟩ := h.cutL
  refine Calls.mono (lholds_any 0 κ w x v.lcnt v.ltot n nM _ _ _ _ _ fv hv kv bs wv Z K (by omega) (fun i hi => by have := (h5 i hi).1; omega) (by omega) h6 h1 h2) ?_
  rintro e w' ⟨rfl, g1, g2, hb⟩
  exact ⟨rfl, h.ledger (τ' := τ) (c' := v.lcnt) (t' := v.ltot) ⟨n, nM, fv, hv, kv, bs, wv, Z, K, g1, g2, h3, h4, h5, h6⟩ hb (fun y _ q => .inl q) (fun y _ q => (hκ y q).2) (fun _ _ _ => rfl), hb⟩
/-- the lender's buffer is another one now -/
theorem Dt.lender {τ τ' : Nat → Nat} {w w' : World} {x : Nat} {v : Vs} {nK G M : Nat} {N : Int} {ys : List Int} (h : Dt τ w x v nK) (ht : Lnd v.oD w' x (.slice (some ⟨G, 0, none⟩) M M) N) (hs : w.heap.size ≤ w'.heap.size) (hk : ∀ y, y < w.heap.size → τ y = 3 ∨ τ y = 4 → w'.heap[y]? = w.heap[y]?) (hτ : ∀ y, y < w.heap.size → τ y = 0 ∨ τ y = 3 ∨ τ y = 4 → τ' y = τ y) (hB : Blk .u8 5 w' G ys) (hl : ys.length = M) (hM : M ≤ 67109376) (hG : τ' G = 5) : Dt τ' w' x { v with bv := .slice (some ⟨G, 0, none⟩) M M, N := N } nK := by
  obtain ⟨R, n, fv, hv, ms, kv, wv, K, Z, hb⟩ := h.bok
  obtain ⟨κ, hL, hκ⟩ := h.led
  have ht' : Tbl w' x { v with bv := .slice (some ⟨G, 0, none⟩) M M, N := N } := ht
  refine ⟨ht', by rw [hτ x h.tbl.lt (.inl h.tx)]; exact h.tx, ⟨R, n, fv, hv, ms, kv, wv, K, Z, ((hb.more (Y := fun y => (τ y = 3 ∨ y = x) ∧ y < w.heap.size) (fun y hy q => ⟨q, hy⟩)).swap ht'.bkb (fun y hy q hne => hk y hy (.inl (q.1.resolve_right hne)))).more (fun y _ q => q.1.imp (fun q3 => (hτ y q.2 (.inr (.inl q3))).trans q3) id)⟩, ⟨cutK κ w.heap.size, hL.swap ht'.inb hs (fun y hy h2 hne => hk y hy (.inr ((hκ y hy h2).resolve_left hne))) (fun y hy => cutK_lo hy), fun y hy hne => ?_⟩, .inr ⟨G, M, ys, rfl, hB, hl, hM, hG⟩⟩
  by_cases hy' : y < w.heap.size
  · rw [cutK_lo hy'] at hne
    rcases hκ y hy' hne with e | e
    · exact .inl e
    · exact .inr (by rw [hτ y hy' (.inr (.inr e))]; exact e)
  · exact absurd (cutK_hi hy') hne
theorem Dt.ls {τ : Nat → Nat} {w : World} {x : Nat} {v : Vs} {nK : Nat} (h : Dt τ w x v nK) : LS v.oD w x v.bv := by
  refine ⟨⟨v.N, h.tbl.lnd⟩, h.buf.imp id (fun ⟨G, M, ys, q1, q2, q3, q4, q5⟩ => ⟨G, M, ys, q1, fun e => ?_, q2, q3, q4⟩)⟩
  have := h.tx
  rw [e] at this
  omega
/-- Lend -/
theorem Dt.lend {τ : Nat → Nat} {w : World} {x : Nat} {v : Vs} {nK : Nat} (h : Dt τ w x v nK) (a : Option Addr) (n c : Nat) (zs : List Int) (hn : n ≤ 16777216) (hR : RdN (fun y => τ y = 0 ∨ τ y = 5) w a n zs) :
    Calls Try.prog 41 #[.pointer (some ⟨x, 22, none⟩), .slice a n c] w fun e w' => ∃ G M, e = .returned (.slice (some ⟨G, 0, none⟩) n (2 * n + 70)) ∧ Dt (tgN τ w.heap.size none 5) w' x { v with bv := .slice (some ⟨G, 0, none⟩) M M, N := n } nK ∧ Lent v.oD w' x G M n zs ∧ tgN τ w.heap.size none 5 G = 5 ∧ But (fun y => τ y = 5 ∨ y = x) w w' := by
  have hXL : ∀ y, XL x v.bv y → τ y = 5 ∨ y = x := fun y q => by
    rcases q with q | q
    · exact .inr q
    · rcases h.buf with e | ⟨G, M, ys, q1, q2, q3, q4, q5⟩
      · rw [e] at q; cases q
      · rw [q1] at q; cases q; exact .inl q5
  refine Calls.mono (Lend_any x v.bv a n c zs w hn h.ls (hR.mono (fun y _ q => (hXL y q).elim .inr (fun e => .inl (by rw [e]; exact h.tx))))) ?_
  rintro e w' ⟨G, M, rfl, hL, hG, hb⟩
  have hG5 : tgN τ w.heap.size none 5 G = 5 := by
    rcases hG with q | q
    · rcases hXL G (.inr q) with e | e
      · unfold tgN
        split
        · rfl
        · exact e
      · exact absurd e.symm hL.ne
    · exact tgN_hi q
  obtain ⟨ys, b1, b2, b3⟩ := hL.buf
  exact ⟨G, M, rfl, h.lender hL.num hb.size (fun y hy q => hb.block y hy (fun q' => by
    rcases hXL y q' with e | e
    · omega
    · have := h.tx; rw [← e] at this; omega)) (fun y hy _ => tgN_lo hy (by simp)) b1 b2 hL.small hG5, hL, hG5, hb.mono (fun y _ q => hXL y q)⟩
/-- Back -/
theorem Dt.back {τ : Nat → Nat} {w : World} {x : Nat} {v : Vs} {nK G M : Nat} (h : Dt τ w x v nK) (hv : v.bv = .slice (some ⟨G, 0, none⟩) M M) (a : Option Addr) (n c : Nat) (zs : List Int) (hn : n ≤ 16777216) (hN : v.N = n) (hM : 2 * n + 70 ≤ M) (hG : τ G = 5) (hb5 : ∃ ys, Blk .u8 5 w G ys ∧ ys.length = M ∧ ys.take (2 * n + 70) = lent zs) (hR : RdN (fun y => τ y = 0 ∨ τ y = 5) w a n zs) :
    Calls Try.prog 44 #[.pointer (some ⟨x, 22, none⟩), .slice a n c] w fun e w' => e = .returned (.bool true) ∧ (∃ N', Dt τ w' x { v with bv := .slice (some ⟨G, 0, none⟩) M M, N := N' } nK) ∧ But (fun y => τ y = 5) w w' := by
  have hne : x ≠ G := fun e => by have := h.tx; rw [e] at this; omega
  have hMl : M ≤ 67109376 := by
    rcases h.buf with e | ⟨G', M', ys, q1, q2, q3, q4, q5⟩
    · rw [hv] at e; cases e
    · rw [hv] at q1; cases q1; exact q4
  have hL : Lent v.oD w x G M n zs := ⟨by have := h.tbl.lnd; rw [hv, hN] at this; exact this, hne, hM, hMl, hb5⟩
  refine Calls.mono (Back_any x G M a n c zs w hn hL (hR.mono (fun y _ q => q.elim (fun e => .inl (by rw [e]; exact h.tx)) (fun e => .inr (by rw [e]; exact hG))))) ?_
  rintro e w' ⟨rfl, ⟨⟨N', g1⟩, g2⟩, hb⟩
  refine ⟨rfl, ⟨N', ?_⟩, hb.mono (fun y _ e => by rw [e]; exact hG)⟩
  rcases g2 with e | ⟨G', M', ys, q1, q2, q3, q4, q5⟩
  · cases e
  · cases q1
    exact h.lender g1 hb.size (fun y hy q => hb.block y hy (fun e => by rw [e] at q; omega)) (fun _ _ _ => rfl) q3 q4 q5 hG

end Go.Proofs.Ytfadnmdmohabmaa

/-
  The desk: own.
-/
namespace Go.Proofs.Ytfadnmdmohabmaa
open Go.RowKit

set_option maxRecDepth 100000 in
set_option maxHeartbeats 2000000 in
theorem own_any {τ : Nat → Nat} {w : World} {x : Nat} {v : Vs} {nK : Nat} (h : Dt τ w x v nK) (al : Option Addr) (cl : Nat) (zs : List Int) (hnK : nK ≤ 67108864) (hc : v.bcnt ≤ 8388608) (ht : v.btot + zs.length ≤ 1073741754) (hzl : zs.length ≤ 268435456) (hn0 : 0 ≤ v.n) (hn1 : v.n ≤ 16777216) (hz : Pl.isB zs)
    (hl : (al = none ∧ zs = [] ∧ cl = 0) ∨ ∃ g, al = some ⟨g, 0, none⟩ ∧ Own w g zs.length cl zs ∧ τ g = 9) :
    Calls Try.prog 40 #[.pointer (some ⟨x, 0, none⟩), .slice al zs.length cl] w fun e w' => e = .returned (.bool true) ∧ ∃ nK' bf bh bm bk bw, nK' ≤ nK + 15 ∧ Dt (tgN τ w.heap.size al 3) w' x { v with n := v.n + 1, bcnt := v.bcnt + 1, btot := v.btot + zs.length, bf := bf, bh := bh, bm := bm, bk := bk, bw := bw } nK' ∧ But (fun y => τ y = 3 ∨ y = x ∨ al = some ⟨y, 0, none⟩) w w' := by
  have c24 := h.tbl.cell 24
  have f24 := h.tbl.frozen 24
  simp only [List.getElem?_toArray, List.getElem?_cons_succ, List.getElem?_cons_zero] at c24
  have h1 := h.setn (v.n + 1)
  have hx9 : ∀ g, al = some ⟨g, 0, none⟩ → g ≠ x := fun g e e2 => by
    rcases hl with ⟨q, _⟩ | ⟨g', q, _, q2⟩
    · rw [q] at e; cases e
    · rw [q] at e; cases e; have := h.tx; rw [e2] at q2; omega
  have em : IntKind.i64.wrap (13 * (v.n + 1)) = 13 * (v.n + 1) := by rw [IntKind.wrap_i64]; omega
  have d24 := h1.tbl.cell 24
  simp only [List.getElem?_toArray, List.getElem?_cons_succ, List.getElem?_cons_zero] at d24
  have HB0 := hid ((But.refl (fun y => τ y = 3 ∨ y = x ∨ al = some ⟨y, 0, none⟩) w).setCell (p := ⟨x, 24, none⟩) (.inr (.inl rfl)) (.int .i64 (v.n + 1)))
  have hsz : (w.setCell ⟨x, 24, none⟩ (.int .i64 (v.n + 1))).heap.size = w.heap.size := by simp [World.setCell]
  have hl' : (al = none ∧ zs = [] ∧ cl = 0) ∨ ∃ g, al = some ⟨g, 0, none⟩ ∧ Own (w.setCell ⟨x, 24, none⟩ (.int .i64 (v.n + 1))) g zs.length cl zs ∧ τ g = 9 := hl.imp id (fun ⟨g, q1, q2, q3⟩ => ⟨g, q1, q2.keep (Below.heap_setCell _ _ _ _ (show g ≠ x from hx9 g q1)), q3⟩)
  have hdr : Below (w.setCell ⟨x, 24, none⟩ (.int .i64 (v.n + 1))).heap.size (w.setCell ⟨x, 24, none⟩ (.int .i64 (v.n + 1))) (w.setCell ⟨x, 24, none⟩ (.int .i64 (v.n + 1))).drew := (Below.refl _ _).drew
  have HO := (h1.below (τ' := τ) hdr (fun _ _ => rfl)).bown al cl zs (13 * (v.n + 1)) hnK hc ht hzl (by omega) (by omega) hz (hl'.imp id (fun ⟨g, q1, q2, q3⟩ => ⟨g, q1, q2.keep rfl, q3⟩))
  rw [← em] at HO
  have HO := hid HO
  have HSZ := hid hsz
  clear h h1 hl hl' hx9 hdr hsz em
  go_enter Try.func40, Try.ntmps40
  generalize hnl : zs.length = nl at *
  clear hnl
  go_wp2_with fail
  go_region_held3 (fun w' => w'.cell? ⟨x, 24, none⟩ = some (.int .i64 (v.n + 1))) (first | assumption | go_keep)
    ((go_at_call 75; refine Calls.mono HO.out ?_; rintro e w2 ⟨rfl, nK', bf, bh, bm, bk, bw, hn', hD, hb⟩
      have e24 := hD.tbl.cell 24
      simp only [List.getElem?_toArray, List.getElem?_cons_succ, List.getElem?_cons_zero] at e24
      have HD := hid hD
      have HB2 := hid hb
      clear hD hb))
  have HH := hid (HD.out.bholds (by omega))
  clear HO e24 d24 c24 f24
  go_wp2_with fail
  refine Calls.mono HH.out ?_
  rintro e w3 ⟨rfl, bf', bh', bm', bk', bw', hD3, hb3⟩
  have FIN : Hid (Dt (tgN τ w.heap.size al 3) w3 x { v with n := v.n + 1, bcnt := v.bcnt + 1, btot := v.btot + nl, bf := bf', bh := bh', bm := bm', bk := bk', bw := bw' } nK' ∧ But (fun y => τ y = 3 ∨ y = x ∨ al = some ⟨y, 0, none⟩) w w3) := by
    have hsz := HSZ.out
    have hD3' := hD3
    rw [show (w.setCell ⟨x, 24, none⟩ (.int .i64 (v.n + 1))).drew.heap.size = w.heap.size from hsz] at hD3'
    refine ⟨hD3', ((HB0.out.drew).step HB2.out (fun y hy q => q)).step hb3 (fun y hy q => ?_)⟩
    rcases q with q | q
    · rw [show (w.setCell ⟨x, 24, none⟩ (.int .i64 (v.n + 1))).drew.heap.size = w.heap.size from hsz] at q
      by_cases ha : al = some ⟨y, 0, none⟩
      · exact .inr (.inr ha)
      · rw [tgN_lo hy ha] at q
        exact .inl q
    · exact .inr (.inl q)
  clear hD3 hb3 HH HD HB2 HB0
  go_wp2
  go_ret
  exact ⟨rfl, nK', bf', bh', bm', bk', bw', hn', FIN.out.1, FIN.out.2⟩

end Go.Proofs.Ytfadnmdmohabmaa
