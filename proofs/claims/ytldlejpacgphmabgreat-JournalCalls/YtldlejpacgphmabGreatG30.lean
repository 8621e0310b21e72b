import Derived.Test.YtldlejpacgphmabGreatG29
import Derived.Test.YtldlejpacgphmabGreatG22
namespace Go.Proofs.YtldlejpacgphmabGreat
open Go.RowKit
theorem LdL.rd {w : World} {L G : Nat} {zs : List Int} (h : LdL w L G zs) (hb : Pl.isB zs) : Rd w.heap.size w (some ⟨G, 0, none⟩) zs.length zs := by
 obtain ⟨M, ys, h1, h2, h3, _, h5, _⟩ := h
 refine ⟨rfl, hb, .inr ⟨G, 0, rfl, h1.lt, fun t ht => ?_⟩⟩
 rw [Nat.zero_add, h1.cell t (by omega)]
 have e : (ys.take (2 * zs.length + 70)).getD t 0 = (lent zs).getD t 0 := by rw [h3]
 rw [lent_lo ht, List.getD_eq_getElem?_getD, List.getElem?_take_of_lt (by omega), ← List.getD_eq_getElem?_getD] at e
 rw [e]
theorem bhd_get (n i : Nat) (hi : i < n) : (bhd n)[i * 2]? = some (.int .i64 (-7 - (i : Int))) ∧ (bhd n)[i * 2 + 1]? = some (.slice none 0 0) := by
 induction n with
 | zero => omega
 | succ n ih =>
  have hl := length_bhd n
  rw [bhd_succ]
  by_cases h : i < n
  ·rw [List.getElem?_append_left (by omega), List.getElem?_append_left (by omega)]
   exact ih h
  ·have e : i = n := by omega
   subst e
   rw [List.getElem?_append_right (by omega), List.getElem?_append_right (by omega), hl]
   refine ⟨?_, ?_⟩
   ·rw [Nat.sub_self]; rfl
   ·rw [show i * 2 + 1 - i * 2 = 1 by omega]; rfl
theorem fld68 (v : Int) (w : World) : (Instr.field 97 (.agg #[.int .i64 v, .slice none 0 0]) 0).run Tryz.prog w = .ok (.int .i64 v) w := by
 unfold Instr.field
 simp [run_underlying Tryz.underlying97, go_sem, part, asAgg]
theorem Tr.backed {w w' : World} {td : Value} {Ls : List Ln} {i L G : Nat} (h : Tr w td Ls []) (hi : Ls[i]? = some (L, some G)) (hl : LdA w' L (some G)) (hb : But (fun x => x = G) w w') : Tr w' td Ls [] where
 row := owns_keep h.row (fun k e => hb.block k (World.ownsRow.lt h.row k e).2 (fun q => h.nr k e i _ hi (.inr (by rw [q]))))
 all := fun j l hj => by
  by_cases hij : j = i
  ·subst hij
   rw [hi] at hj
   cases hj
   exact hl
  ·exact (h.all j l hj).keep (hb.block _ (h.all j l hj).lt.1 (fun q => h.dj j i l _ hj hi hij _ (.inl rfl) (.inr (by rw [q])))) (fun G' e => hb.block _ ((h.all j l hj).lt.2 G' e) (fun q => h.dj j i l _ hj hi hij _ (.inr e) (.inr (by rw [q]))))
 lnt := fun j z hj => by simp at hj
 dj := h.dj
 ne := h.ne
 nr := h.nr
def BackP (w : World) (wb p c : Nat) (jv : Value) (g : Nat) (rm lasted : Int) (off trying : Bool) (tried : Value) (lb n1 lc : Nat) (td : Value) (Ls : List Ln) (e : Ending) (w' : World) : Prop :=
 e = .returned (.bool true) ∧ Wb w' wb p c jv g rm lasted off trying tried (.slice (some ⟨lb, 0, none⟩) n1 lc) td ∧ Tr w' td Ls [] ∧ (∃ cs, w'.ownsRow 0 97 2 (.slice (some ⟨lb, 0, none⟩) n1 lc) n1 cs) ∧ But (fun k => k = lb ∨ TrB td Ls k) w w'
structure Bq (w wr : World) (wb p c : Nat) (jv : Value) (g : Nat) (rm lasted : Int) (off trying : Bool) (tried : Value) (lb n1 lc : Nat) (td : Value) (Ls : List Ln) (ps : List Pm) (xs0 xs : List Value) (i : Nat) : Prop where
 wd : Wb wr wb p c jv g rm lasted off trying tried (.slice (some ⟨lb, 0, none⟩) n1 lc) td
 tr : Tr wr td Ls []
 row : wr.ownsRow 0 97 2 (.slice (some ⟨lb, 0, none⟩) n1 lc) n1 xs
 same : ∀ m, i * 2 ≤ m → xs[m]? = xs0[m]?
 lnt : ∀ (j : Nat) (pp : Pm), i ≤ j → ps[j]? = some pp → ∃ L G, Ls[j]? = some (L, some G) ∧ LdL wr L G pp.data
 bt : But (fun k => k = lb ∨ TrB td Ls k) w wr
theorem Bq.next {w wr w2 : World} {wb p c : Nat} {jv : Value} {g : Nat} {rm lasted : Int} {off trying : Bool} {tried : Value} {lb n1 lc : Nat} {td : Value} {Ls : List Ln} {ps : List Pm} {xs0 xs : List Value} {i L G : Nat} (h : Bq w wr wb p c jv g rm lasted off trying tried lb n1 lc td Ls ps xs0 xs i) (hlw : lb ≠ wb) (hwT : ¬ TrB td Ls wb) (hlT : ¬ TrB td Ls lb) (hi : Ls[i]? = some (L, some G)) (hl : LdA w2 L (some G)) (hb : But (fun x => x = G) wr.drew w2) :
  Bq w ((w2.setCell ⟨lb, i * 2, none⟩ (.int .i64 1)).setCell ⟨lb, i * 2 + 1, none⟩ (.slice none 0 0)) wb p c jv g rm lasted off trying tried lb n1 lc td Ls ps xs0 ((xs.set (i * 2) (.int .i64 1)).set (i * 2 + 1) (.slice none 0 0)) (i + 1) := by
 have hGT : TrB td Ls G := .inr ⟨_, List.mem_of_getElem? hi, .inr rfl⟩
 have hGw : wb ≠ G := fun e => hwT (by rw [e]; exact hGT)
 have hGl : lb ≠ G := fun e => hlT (by rw [e]; exact hGT)
 have hwl := h.wd.lt
 have hll := (World.ownsRow.lt h.row lb rfl).2
 have b2 : But (fun x => x = G) wr w2 := (But.refl (fun x => x = G) wr).drew.comp hb (fun _ _ q => q)
 have tr2 := Tr.backed h.tr hi hl b2
 have bs : But (fun k => k = lb) w2 ((w2.setCell ⟨lb, i * 2, none⟩ (.int .i64 1)).setCell ⟨lb, i * 2 + 1, none⟩ (.slice none 0 0)) := ((But.refl (fun k => k = lb) w2).setCell rfl _).setCell rfl _
 refine ⟨?_, ?_, ?_, fun m hm => ?_, fun j pp hj hpj => ?_, ?_⟩
 ·exact (h.wd.keep (b2.block wb hwl hGw)).keep (bs.block wb (Nat.lt_of_lt_of_le hwl b2.size) (Ne.symm hlw))
 ·exact tr2.but bs (fun k _ r q => hlT (by rw [← q]; exact r))
 ·have r2 : w2.ownsRow 0 97 2 (.slice (some ⟨lb, 0, none⟩) n1 lc) n1 xs := owns_keep h.row (fun k e => by
   have e2 : lb = k := by injection e
   subst e2
   exact b2.block lb hll hGl)
  obtain ⟨a1, a2⟩ := r2
  rcases a2 with ⟨e, _⟩ | ⟨g9, cap, cur, e, _, hg, c1, c2, c3, c4⟩
  ·simp at e
  ·simp only [Value.slice.injEq, Option.some.injEq, Addr.mk.injEq] at e
   obtain ⟨⟨rfl, _⟩, _, rfl⟩ := e
   refine ⟨by simp [a1], .inr ⟨lb, lc, (cur.setIfInBounds (i * 2) (.int .i64 1)).setIfInBounds (i * 2 + 1) (.slice none 0 0), rfl, Nat.zero_le _, ?_, c1, c2, by simp [c3], ?_⟩⟩
   ·have h1 : (w2.setCell ⟨lb, i * 2, none⟩ (.int .i64 1)).heap[lb]? = some (.cells (cur.setIfInBounds (i * 2) (.int .i64 1)) 97 (0, 0)) := by
     simp only [World.setCell, Array.getElem?_modify]
     rw [hg]
     simp
    generalize w2.setCell ⟨lb, i * 2, none⟩ (.int .i64 1) = w9 at h1
    simp only [World.setCell, Array.getElem?_modify]
    rw [h1]
    simp
   ·rw [Array.toList_setIfInBounds, Array.toList_setIfInBounds, List.take_set, List.take_set, c4]
 ·rw [List.getElem?_set_ne (by omega), List.getElem?_set_ne (by omega)]
  exact h.same m (by omega)
 ·obtain ⟨L2, G2, q1, q2⟩ := h.lnt j pp (by omega) hpj
  have hne : j ≠ i := by omega
  have k2 := h.tr.all j _ q1
  have hk : ∀ k, Ln.has (L2, some G2) k → k ≠ G ∧ k ≠ lb := fun k r => ⟨fun e => h.tr.dj j i _ _ q1 hi hne k r (.inr (by rw [e])), fun e => hlT (by rw [← e]; exact .inr ⟨_, List.mem_of_getElem? q1, r⟩)⟩
  have hkb : ∀ k, k < wr.heap.size → Ln.has (L2, some G2) k → ((w2.setCell ⟨lb, i * 2, none⟩ (.int .i64 1)).setCell ⟨lb, i * 2 + 1, none⟩ (.slice none 0 0)).heap[k]? = wr.heap[k]? := fun k hkl r => (bs.block k (Nat.lt_of_lt_of_le hkl b2.size) (hk k r).2).trans (b2.block k hkl (hk k r).1)
  exact ⟨L2, G2, q1, q2.keep (hkb L2 k2.lt.1 (.inl rfl)) (hkb G2 (k2.lt.2 G2 rfl) (.inr rfl))⟩
 ·exact (h.bt.comp b2 (fun k hk q => .inr (by rw [q]; exact hGT))).comp bs (fun k hk q => .inl q)
open Go.RowKit
set_option maxRecDepth 100000 in
set_option maxHeartbeats 4000000 in
theorem back_any {w : World} {wb p c : Nat} {jv : Value} {g : Nat} {rm lasted : Int} {off trying : Bool} {tried : Value} {lb n1 lc : Nat} {td : Value} {Ls : List Ln} {ps qs : List Pm} {cs : List Value} (hW : Wb w wb p c jv g rm lasted off trying tried (.slice (some ⟨lb, 0, none⟩) n1 lc) td) (hT : Tr w td Ls (ps.map Pm.data)) (hLP : LentP Ls ps qs) (hrow : w.ownsRow 0 97 2 (.slice (some ⟨lb, 0, none⟩) n1 lc) n1 ((pmCells qs ++ bhd (ps.length + 70)) ++ cs)) (hwT : ¬ TrB td Ls wb) (hlT : ¬ TrB td Ls lb) (hlw : lb ≠ wb) (a0 : Option Addr) (cp : Nat) (hR : RdP (fun k => k = lb ∨ TrB td Ls k) w a0 ps) (hN : ps.length ≤ 536870912) (hd : ∀ p ∈ ps, p.data.length ≤ 16777216) :
  Calls Tryz.prog 103 #[.pointer (some ⟨wb, 9, none⟩), .slice a0 ps.length cp] w (BackP w wb p c jv g rm lasted off trying tried lb n1 lc td Ls) := by
 obtain ⟨PO, hPO⟩ : ∃ PO : Ending → World → Prop, PO = BackP w wb p c jv g rm lasted off trying tried lb n1 lc td Ls := ⟨_, rfl⟩
 rw [← hPO]
 have HPO := hid hPO
 clear hPO
 obtain ⟨xs0, hxs0⟩ : ∃ xs0, xs0 = (pmCells qs ++ bhd (ps.length + 70)) ++ cs := ⟨_, rfl⟩
 rw [← hxs0] at hrow
 have hql : qs.length = ps.length := by have := congrArg List.length hLP.1; simpa using this
 have hwl := hW.lt
 have hll := (World.ownsRow.lt hrow lb rfl).2
 have hn1 : ps.length + (ps.length + 70) ≤ n1 := by
  have h1 := hrow.1
  rw [hxs0, List.length_append, List.length_append, pmCells_length, length_bhd, hql] at h1
  omega
 have hn1c : n1 ≤ lc := by
  rcases hrow.2 with ⟨e, _⟩ | ⟨_, _, _, e, _, _, q, _⟩
  ·simp at e
  ·simp only [Value.slice.injEq] at e
   omega
 have HX0 : Hid ((∀ (i : Nat) (qq : Pm), qs[i]? = some qq → xs0[i * 2]? = some (.int .i64 qq.at_) ∧ xs0[i * 2 + 1]? = some (.slice qq.ad qq.data.length qq.cap)) ∧ ∀ i, i < ps.length + 70 → xs0[(ps.length + i) * 2]? = some (.int .i64 (-7 - (i : Int))) ∧ xs0[(ps.length + i) * 2 + 1]? = some (.slice none 0 0)) := by
  have hpl := pmCells_length qs
  refine ⟨fun i qq hi => ?_, fun i hi => ?_⟩
  ·have hil := (List.getElem?_eq_some_iff.1 hi).1
   obtain ⟨h1, h2⟩ := pmCells_get qs i qq hi
   rw [hxs0, List.append_assoc, List.getElem?_append_left (by omega), List.getElem?_append_left (by omega)]
   exact ⟨h1, h2⟩
  ·obtain ⟨h1, h2⟩ := bhd_get (ps.length + 70) i hi
   have hbl := length_bhd (ps.length + 70)
   refine ⟨?_, ?_⟩
   ·rw [hxs0, List.append_assoc, List.getElem?_append_right (by omega), List.getElem?_append_left (by omega), show (ps.length + i) * 2 - (pmCells qs).length = i * 2 by omega]
    exact h1
   ·rw [hxs0, List.append_assoc, List.getElem?_append_right (by omega), List.getElem?_append_left (by omega), show (ps.length + i) * 2 + 1 - (pmCells qs).length = i * 2 + 1 by omega]
    exact h2
 have h0 : Bq w w wb p c jv g rm lasted off trying tried lb n1 lc td Ls ps xs0 xs0 0 := ⟨hW, hT.nothing, hrow, fun _ _ => rfl, fun j pp _ hj => hT.lnt j pp.data (by rw [List.getElem?_map, hj]; rfl), But.refl _ _⟩
 have H0 := hid h0
 have HLP := hid hLP
 have HR := hid hR
 have HD := hid hd
 have HS := hid (And.intro hwT (And.intro hlT hlw))
 clear hW hT hLP hrow hwT hlT hR hd h0 hxs0
 obtain ⟨N, hNe⟩ : ∃ N, N = ps.length := ⟨_, rfl⟩
 rw [← hNe] at hN hn1 HX0 hql ⊢
 have HN := hid hNe
 clear hNe
 go_enter Tryz.func103, Tryz.ntmps103
 go_wp2_with fail
 go_loopw [5] (fun iv wr => ∃ (i : Nat) (xs : List Value), i ≤ N ∧ iv = .int .i64 (i : Int) ∧ Bq w wr wb p c jv g rm lasted off trying tried lb n1 lc td Ls ps xs0 xs i) (fun iv _ => N - (intOf iv).toNat)
 case atStart => exact ⟨0, xs0, Nat.zero_le _, rfl, H0.out⟩
 case round =>
  clear H0
  obtain ⟨i, xs, hiN, rfl, hQ⟩ := hrel
  by_cases hi : i < N
  ·have hi' : (i : Int) < (N : Int) := by omega
   obtain ⟨pp, hpp⟩ : ∃ pp, ps[i]? = some pp := ⟨_, List.getElem?_eq_getElem (by have := HN.out; omega)⟩
   obtain ⟨qq, hqq⟩ : ∃ qq, qs[i]? = some qq := ⟨_, List.getElem?_eq_getElem (by omega)⟩
   have hsay : qq.say = pp.say := by
    have e := congrArg (fun l => l[i]?) HLP.out.1
    simp only [List.getElem?_map, hqq, hpp, Option.map_some, Option.some.injEq] at e
    exact e
   have ha : qq.at_ = pp.at_ := congrArg Prod.fst hsay
   have hda : qq.data = pp.data := congrArg Prod.snd hsay
   obtain ⟨L, G, hLs, hadq, hcapq⟩ := HLP.out.2 i qq hqq
   obtain ⟨L', G', hLs', hLdL⟩ := hQ.lnt i pp (Nat.le_refl _) hpp
   rw [hLs] at hLs'
   simp only [Option.some.injEq, Prod.mk.injEq] at hLs'
   obtain ⟨rfl, rfl⟩ := hLs'
   have hGT : TrB td Ls G := .inr ⟨_, List.mem_of_getElem? hLs, .inr rfl⟩
   have hLT : TrB td Ls L := .inr ⟨_, List.mem_of_getElem? hLs, .inl rfl⟩
   have hGw : wb ≠ G := fun e => HS.out.1 (by rw [e]; exact hGT)
   have hGl : lb ≠ G := fun e => HS.out.2.1 (by rw [e]; exact hGT)
   have hsw := hQ.bt.size
   obtain ⟨x0, x1⟩ := HX0.out.1 i qq hqq
   rw [← hQ.same (i * 2) (Nat.le_refl _)] at x0
   rw [← hQ.same (i * 2 + 1) (by omega)] at x1
   have q0 := World.ownsRow.cells hQ.row (g := lb) rfl _ _ x0
   have q1 := World.ownsRow.cells hQ.row (g := lb) rfl _ _ x1
   rw [Addr.add_lit, Nat.zero_add] at q0 q1
   rw [ha] at q0
   rw [hadq, hda] at q1
   obtain ⟨pb, po, rfl, hpb, hpn, hpc⟩ : ∃ b off, a0 = some ⟨b, off, none⟩ ∧ b < w.heap.size ∧ ¬ (b = lb ∨ TrB td Ls b) ∧ ∀ (t : Nat) (p : Pm), ps[t]? = some p → w.cell? ⟨b, off + t * 2, none⟩ = some (.int .i64 p.at_) ∧ w.cell? ⟨b, off + t * 2 + 1, none⟩ = some (.slice p.ad p.data.length p.cap) := by
    rcases HR.out.2 with e | e
    ·rw [e] at hpp; cases hpp
    ·exact e
   obtain ⟨d0, d1⟩ := hpc i pp hpp
   have p0 := (hQ.bt.cell (p := ⟨pb, po + i * 2, none⟩) hpb hpn).trans d0
   have p1 := (hQ.bt.cell (p := ⟨pb, po + i * 2 + 1, none⟩) hpb hpn).trans d1
   have hGp : pb ≠ G := fun e => hpn (.inr (by rw [e]; exact hGT))
   have k9 : wr.cell? ⟨wb, 9, none⟩ = some (.slice (some ⟨lb, 0, none⟩) n1 lc) := hQ.wd.cell 9
   obtain ⟨da, dc, hde, _⟩ := owns_slice hQ.tr.row
   have hrowd := hQ.tr.row
   rw [hde] at hrowd
   have hiL := (List.getElem?_eq_some_iff.1 hLs).1
   obtain ⟨tb, rfl, _, htl, hcs⟩ := owns_cells hrowd (by omega)
   have k10 : wr.cell? ⟨wb, 10, none⟩ = some (.slice (some ⟨tb, 0, none⟩) Ls.length dc) := by rw [← hde]; exact hQ.wd.cell 10
   have tL : wr.cell? ⟨tb, i, none⟩ = some (.pointer (some ⟨L, 0, none⟩)) := by
    rw [hcs i hiL, List.getD_eq_getElem?_getD, List.getElem?_map, hLs]
    rfl
   have hGt : tb ≠ G := fun e => hQ.tr.nr tb (by rw [hde]; rfl) i _ hLs (.inr (by rw [e]))
   have hpd := HD.out pp (List.mem_of_getElem? hpp)
   have hrdp := HR.out.1 pp (List.mem_of_getElem? hpp)
   have hisb := hrdp.2.1
   have hrdr : RdN (fun x => x = L ∨ x = G) wr.drew pp.ad pp.data.length pp.data := hrdp.turn hQ.bt.drew (fun k _ r => r) _ (fun k hk r => .inr (by rcases r with r | r; rw [r]; exact hLT; rw [r]; exact hGT))
   have hLdr : LdL wr.drew L G pp.data := hLdL.keep rfl rfl
   have HSm := hid (SameBytes_eq wr.drew.heap.size (some ⟨G, 0, none⟩) pp.ad pp.data.length qq.cap pp.data.length pp.cap pp.data wr.drew (hLdr.rd hisb) hrdr.rd)
   have hlr := (World.ownsRow.lt hQ.row lb rfl).2
   have fz0 := hQ.row.frozenAt (i * 2)
   have fz1 := hQ.row.frozenAt (i * 2 + 1)
   obtain ⟨v, hv⟩ : ∃ v, v = pp.at_ := ⟨_, rfl⟩
   obtain ⟨ln, hln⟩ : ∃ ln, ln = pp.data.length := ⟨_, rfl⟩
   obtain ⟨ad, had⟩ : ∃ ad, ad = pp.ad := ⟨_, rfl⟩
   obtain ⟨cp1, hcp1⟩ : ∃ cp1, cp1 = pp.cap := ⟨_, rfl⟩
   obtain ⟨cpq, hcpq⟩ : ∃ cpq, cpq = qq.cap := ⟨_, rfl⟩
   obtain ⟨dn, hdn⟩ : ∃ dn, dn = Ls.length := ⟨_, rfl⟩
   have HBk : Hid (Calls Tryz.prog 154 #[.pointer (some ⟨L, 0, none⟩), .slice ad ln cp1] wr.drew fun e w2 => e = .returned (.bool true) ∧ (LdA w2 L (some G) ∧ But (fun x => x = G) wr.drew w2) ∧ w2.frozen? ⟨lb, i * 2, none⟩ = false ∧ w2.frozen? ⟨lb, i * 2 + 1, none⟩ = false ∧ w2.cell? ⟨wb, 9, none⟩ = some (.slice (some ⟨lb, 0, none⟩) n1 lc) ∧ w2.cell? ⟨wb, 10, none⟩ = some (.slice (some ⟨tb, 0, none⟩) dn dc) ∧ w2.cell? ⟨lb, i * 2, none⟩ = some (.int .i64 v) ∧ w2.cell? ⟨lb, i * 2 + 1, none⟩ = some (.slice (some ⟨G, 0, none⟩) ln cpq) ∧ w2.cell? ⟨pb, po + i * 2, none⟩ = some (.int .i64 v) ∧ w2.cell? ⟨pb, po + i * 2 + 1, none⟩ = some (.slice ad ln cp1) ∧ w2.cell? ⟨tb, i, none⟩ = some (.pointer (some ⟨L, 0, none⟩))) := by
    rw [hv, hln, had, hcp1, hcpq, hdn]
    obtain ⟨M, ys, y1, y2, y3, y4, y5, y6⟩ := hLdr
    refine Calls.mono (Back_ok L G M pp.ad pp.data.length pp.cap ys pp.data wr.drew hpd y1 y2 y3 y4 (fun e => hQ.tr.ne i _ hLs (by rw [e])) y5 y6 hrdr) ?_
    rintro e w2 ⟨ys', rfl, z1, z2, z3, b2⟩
    have hc : ∀ (b o : Nat), b < wr.heap.size → b ≠ G → w2.cell? ⟨b, o, none⟩ = wr.cell? ⟨b, o, none⟩ := fun b o h1 h2 => (b2.cell (p := ⟨b, o, none⟩) h1 h2)
    have hf : ∀ (b o : Nat), b < wr.heap.size → b ≠ G → w2.frozen? ⟨b, o, none⟩ = wr.frozen? ⟨b, o, none⟩ := fun b o h1 h2 => World.frozen?_of_block (a := ⟨b, o, none⟩) (b2.block b h1 h2)
    exact ⟨rfl, ⟨⟨M, ys', _, z1, z2, z3, y6⟩, b2⟩, (hf lb _ hlr hGl).trans fz0, (hf lb _ hlr hGl).trans fz1, (hc wb 9 (by omega) hGw).trans k9, (hc wb 10 (by omega) hGw).trans k10, (hc lb _ hlr hGl).trans q0, (hc lb _ hlr hGl).trans q1, (hc pb _ (by omega) hGp).trans p0, (hc pb _ (by omega) hGp).trans p1, (hc tb i htl hGt).trans tL⟩
   have HNX : Hid (∀ w2, LdA w2 L (some G) ∧ But (fun x => x = G) wr.drew w2 → Bq w ((w2.setCell ⟨lb, i * 2, none⟩ (.int .i64 1)).setCell ⟨lb, i * 2 + 1, none⟩ (.slice none 0 0)) wb p c jv g rm lasted off trying tried lb n1 lc td Ls ps xs0 ((xs.set (i * 2) (.int .i64 1)).set (i * 2 + 1) (.slice none 0 0)) (i + 1)) := fun w2 hh => hQ.next HS.out.2.2 HS.out.1 HS.out.2.1 hLs hh.1 hh.2
   rw [← hln, ← had, ← hcp1, ← hcpq] at HSm
   rw [← hv] at q0 p0
   rw [← hln, ← hcpq] at q1
   rw [← hln, ← had, ← hcp1] at p1
   rw [← hdn] at k10 hiL
   have hi1 : (i : Int) < (n1 : Int) := by omega
   have hi2 : (i : Int) < (dn : Int) := by omega
   clear hQ hv hln had hcp1 hcpq hdn hde hrowd hcs hLdL hLdr hrdr hrdp hisb hpd hpp hqq hsay ha hda hadq hcapq hGT hLT hpc hpn d0 d1 x0 x1 hLs hGw hGl hGp hGt
   go_wp2_with fail
   refine wp_region_held_drew (S := fun w' => w'.cell? ⟨wb, 9, none⟩ = some (.slice (some ⟨lb, 0, none⟩) n1 lc) ∧ w'.cell? ⟨wb, 10, none⟩ = some (.slice (some ⟨tb, 0, none⟩) dn dc) ∧ w'.cell? ⟨lb, i * 2, none⟩ = some (.int .i64 v) ∧ w'.cell? ⟨lb, i * 2 + 1, none⟩ = some (.slice (some ⟨G, 0, none⟩) ln cpq) ∧ w'.cell? ⟨pb, po + i * 2, none⟩ = some (.int .i64 v) ∧ w'.cell? ⟨pb, po + i * 2 + 1, none⟩ = some (.slice ad ln cp1) ∧ w'.cell? ⟨tb, i, none⟩ = some (.pointer (some ⟨L, 0, none⟩))) (by kernel_rfl) ⟨k9, k10, q0, q1, p0, p1, tL⟩ (fun hSS => ?_)
   refine tk 0 (some 14) (.move (.tmp 0)) 232 none hSS ?_
   refine tk 1 (some 15) (.nilCheck (.tmp 14)) 0 none hSS ?_
   refine tk 2 (some 16) (.fieldAddr 48 (.tmp 15) 0) 0 none hSS ?_
   refine tk 3 (some 17) (.load 35 (.tmp 16)) 35 none hSS ?_
   try simp only [Act.put, zA, zB, zC]
   refine tk 4 (some 18) (.move (.tmp 5)) 3 none hSS ?_
   refine tk 5 (some 19) (.indexAddr 35 (.tmp 17) (.tmp 18)) 0 none hSS ?_
   refine tk 6 (some 20) (.fieldAddr 97 (.tmp 19) 0) 0 none hSS ?_
   refine tk 7 (some 21) (.load 3 (.tmp 20)) 3 none hSS ?_
   try simp only [Act.put, zA, zB, zC]
   refine tk 8 (some 22) (.move (.tmp 1)) 35 none hSS ?_
   refine tk 9 (some 23) (.move (.tmp 5)) 3 none hSS ?_
   refine tk 10 (some 24) (.indexAddr 35 (.tmp 22) (.tmp 23)) 0 none hSS ?_
   refine tk 11 (some 25) (.fieldAddr 97 (.tmp 24) 0) 0 none hSS ?_
   try simp only [Act.put, zA, zB, zC]
   refine tk 12 (some 26) (.load 3 (.tmp 25)) 3 none hSS ?_
   refine tk 13 (some 27) (.binOp .neq 3 (.tmp 21) (.tmp 26) 3) 4 none hSS ?_
   refine tk 14 (some 28) (.move (.tmp 27)) 4 none hSS ?_
   refine tk 15 (some 29) (.move (.tmp 0)) 232 (some (14, false)) hSS ?_
   try simp only [Act.put, zA, zB, zC]
   refine tk 16 (some 30) (.nilCheck (.tmp 29)) 0 (some (14, false)) hSS ?_
   refine tk 17 (some 31) (.fieldAddr 48 (.tmp 30) 0) 0 (some (14, false)) hSS ?_
   refine tk 18 (some 32) (.load 35 (.tmp 31)) 35 (some (14, false)) hSS ?_
   refine tk 19 (some 33) (.move (.tmp 5)) 3 (some (14, false)) hSS ?_
   try simp only [Act.put, zA, zB, zC]
   refine tk 20 (some 34) (.indexAddr 35 (.tmp 32) (.tmp 33)) 0 (some (14, false)) hSS ?_
   refine tk 21 (some 35) (.fieldAddr 97 (.tmp 34) 1) 0 (some (14, false)) hSS ?_
   refine tk 22 (some 36) (.load 22 (.tmp 35)) 22 (some (14, false)) hSS ?_
   refine tk 23 (some 37) (.move (.tmp 1)) 35 (some (14, false)) hSS ?_
   try simp only [Act.put, zA, zB, zC]
   refine tk 24 (some 38) (.move (.tmp 5)) 3 (some (14, false)) hSS ?_
   refine tk 25 (some 39) (.indexAddr 35 (.tmp 37) (.tmp 38)) 0 (some (14, false)) hSS ?_
   refine tk 26 (some 40) (.fieldAddr 97 (.tmp 39) 1) 0 (some (14, false)) hSS ?_
   refine tk 27 (some 41) (.load 22 (.tmp 40)) 22 (some (14, false)) hSS ?_
   try simp only [Act.put, zA, zB, zC]
   refine wpAnyH_ready (rs := [28]) (by kernel_rfl) (by simp) (AllReadyH.cons (o := ({ dst := some 42, op := Op.call { callee := Callee.value (Operand.func 48), args := #[Operand.tmp 36, Operand.tmp 41], argTypes := #[22, 22] }, type := 4, pos := _, after := _, guard := some (14, false) } : Oper)) rfl (fun K9 hK9 => ?_) AllReadyH.nil)
   go_simp
   go_at_call 48
   refine Calls.mono HSm.out ?_
   rintro e w8 ⟨rfl, hw8⟩
   rw [hw8]
   clear hw8 HSm
   refine hK9.out _ _ hSS (fun hSS => ?_)
   clear hK9 K9
   try simp only [Act.put, zA, zB, zC]
   refine tk 29 (some 43) (.unOp .not 4 (.tmp 42)) 4 (some (14, false)) hSS ?_
   try simp only [Act.put, zA, zB, zC]
   refine tk 30 (some 44) (.pick (.tmp 28) (.const (.bool true)) (.tmp 43)) 4 none hSS ?_
   refine tk 31 (some 45) (.move (.tmp 44)) 4 none hSS ?_
   refine tk 32 (some 46) (.move (.tmp 0)) 232 (some (31, false)) hSS ?_
   refine tk 33 (some 47) (.nilCheck (.tmp 46)) 0 (some (31, false)) hSS ?_
   try simp only [Act.put, zA, zB, zC]
   refine tk 34 (some 48) (.fieldAddr 48 (.tmp 47) 1) 0 (some (31, false)) hSS ?_
   refine tk 35 (some 49) (.load 46 (.tmp 48)) 46 (some (31, false)) hSS ?_
   refine tk 36 (some 50) (.move (.tmp 5)) 3 (some (31, false)) hSS ?_
   refine tk 37 (some 51) (.indexAddr 46 (.tmp 49) (.tmp 50)) 0 (some (31, false)) hSS ?_
   try simp only [Act.put, zA, zB, zC]
   refine tk 38 (some 52) (.load 233 (.tmp 51)) 233 (some (31, false)) hSS ?_
   refine tk 39 (some 53) (.move (.tmp 1)) 35 (some (31, false)) hSS ?_
   refine tk 40 (some 54) (.move (.tmp 5)) 3 (some (31, false)) hSS ?_
   refine tk 41 (some 55) (.indexAddr 35 (.tmp 53) (.tmp 54)) 0 (some (31, false)) hSS ?_
   try simp only [Act.put, zA, zB, zC]
   refine tk 42 (some 56) (.fieldAddr 97 (.tmp 55) 1) 0 (some (31, false)) hSS ?_
   refine tk 43 (some 57) (.load 22 (.tmp 56)) 22 (some (31, false)) hSS ?_
   try simp only [Act.put, zA, zB, zC]
   refine wpAnyH_ready (rs := [44]) (by kernel_rfl) (by simp) (AllReadyH.cons (o := ({ dst := some 58, op := Op.call { callee := Callee.value (Operand.func 154), args := #[Operand.tmp 52, Operand.tmp 57], argTypes := #[233, 22] }, type := 4, pos := _, after := _, guard := some (31, false) } : Oper)) rfl (fun K9 hK9 => ?_) AllReadyH.nil)
   go_simp
   go_at_call 154
   refine Calls.mono HBk.out ?_
   rintro e w2 ⟨rfl, hW2, hfz0, hfz1, m9, m10, s0, s1, r0, r1, sL⟩
   have HW2 := hid hW2
   clear hW2 HBk
   refine hK9.out _ _ ⟨m9, m10, s0, s1, r0, r1, sL⟩ (fun hSS => ?_)
   clear hK9 K9
   try simp only [Act.put, zA, zB, zC]
   refine tk 45 (some 59) (.unOp .not 4 (.tmp 58)) 4 (some (31, false)) hSS ?_
   refine tk 46 (some 60) (.pick (.tmp 45) (.const (.bool true)) (.tmp 59)) 4 none hSS ?_
   try simp only [Act.put, zA, zB, zC]
   refine wpAnyH_done (by kernel_rfl) ?_ _
   have FIN := hid (HNX.out w2 HW2.out)
   clear HNX HW2 m10 r0 r1 sL hSS k9 k10 q0 q1 p0 p1 tL fz0 fz1 htl
   go_wp2_with fail
   go_roundw
   case rel => exact ⟨i + 1, _, by omega, by go_num, FIN.out⟩
   case measure => simp [intOf]; omega
  ·have hi' : ¬ (i : Int) < (N : Int) := by omega
   have hie : i = N := by omega
   subst hie
   obtain ⟨w1, hw1⟩ : ∃ w1, w1 = wr := ⟨_, rfl⟩
   subst hw1
   have HFin : Hid (∀ w', Below w1.heap.size w1 w' → PO (.returned (.bool true)) w') := fun w' hb => by
    rw [HPO.out]
    exact ⟨rfl, hQ.wd.keep (hb.block wb hQ.wd.lt), hQ.tr.but (But.of_below hb (X := fun _ => False)) (fun _ _ _ q => q.elim), ⟨xs, owns_below hQ.row hb⟩, hQ.bt.comp (But.of_below hb (X := fun _ => False)) (fun _ _ q => q.elim)⟩
   have k9 : w1.cell? ⟨wb, 9, none⟩ = some (.slice (some ⟨lb, 0, none⟩) n1 lc) := hQ.wd.cell 9
   have hwl1 := hQ.wd.lt
   have hll1 := (World.ownsRow.lt hQ.row lb rfl).2
   have HC : Hid (∀ r, r < i + 70 → w1.cell? ⟨lb, (i + r) * 2, none⟩ = some (.int .i64 (-7 - (r : Int))) ∧ w1.cell? ⟨lb, (i + r) * 2 + 1, none⟩ = some (.slice none 0 0)) := fun r hr => by
    obtain ⟨x0, x1⟩ := HX0.out.2 r hr
    rw [← hQ.same ((i + r) * 2) (by omega)] at x0
    rw [← hQ.same ((i + r) * 2 + 1) (by omega)] at x1
    have q0 := World.ownsRow.cells hQ.row (g := lb) rfl _ _ x0
    have q1 := World.ownsRow.cells hQ.row (g := lb) rfl _ _ x1
    rw [Addr.add_lit, Nat.zero_add] at q0 q1
    exact ⟨q0, q1⟩
   clear hQ HX0 HLP HR HD HS HPO
   go_wp2_with fail
   go_loopw [6] (fun iv wr => ∃ r : Nat, r ≤ i + 70 ∧ iv = .int .i64 (r : Int) ∧ Below w1.heap.size w1 wr) (fun iv _ => i + 70 - (intOf iv).toNat)
   case atStart => exact ⟨0, by omega, rfl, Below.refl _ _⟩
   case round =>
    obtain ⟨r, hr, rfl, hbt⟩ := hrel
    by_cases hr7 : r < i + 70
    ·have hr' : (r : Int) < (i : Int) + 70 := by omega
     obtain ⟨c0, c1⟩ := HC.out r hr7
     have d0 := (hbt.cell (p := ⟨lb, (i + r) * 2, none⟩) hll1).trans c0
     have d1 := (hbt.cell (p := ⟨lb, (i + r) * 2 + 1, none⟩) hll1).trans c1
     have m9 := (hbt.cell (p := ⟨wb, 9, none⟩) hwl1).trans k9
     have hst := hbt.size
     obtain ⟨v, hv⟩ : ∃ v : Int, v = -7 - (r : Int) := ⟨_, rfl⟩
     have hlr : lb < wr.heap.size := by omega
     obtain ⟨xb, hxb⟩ : ∃ xb, xb = wr.heap.size := ⟨_, rfl⟩
     obtain ⟨w9, hw9⟩ : ∃ w9, w9 = wr.alloc (.cells #[.int .i64 v, .slice none 0 0] 97) := ⟨_, rfl⟩
     have x0 : w9.cell? ⟨xb, 0, none⟩ = some (.int .i64 v) := by rw [hw9, hxb]; exact cell_new rfl 0 _ rfl
     have x1 : w9.cell? ⟨xb, 1, none⟩ = some (.slice none 0 0) := by rw [hw9, hxb]; exact cell_new rfl 1 _ rfl
     have b9 : Below w1.heap.size w1 w9 := by rw [hw9]; exact hbt.alloc hst _
     have hxl : xb < w9.heap.size := by rw [hw9, hxb]; simp
     have HBh := hid (behind_any r w9.drew (by omega))
     rw [← hv] at HBh d0
     have HFX : Hid (∀ w2, Below w9.drew.heap.size w9.drew w2 → Below w1.heap.size w1 w2) := fun w2 b2 => b9.drew.trans (b2.mono b9.size)
     have hkn : (i : Int) + (r : Int) < (n1 : Int) := by omega
     have HW9 := hid hw9
     have HXB := hid hxb
     have HV := hid hv
     clear hw9 b9 hv c0 c1 hbt hxb
     go_wp2_with fail
     rw [← HW9.out, ← HXB.out]
     have hfld := fld68 v
     refine wp_region_held_drew (S := fun w' => w'.cell? ⟨xb, 0, none⟩ = some (.int .i64 v) ∧ w'.cell? ⟨xb, 1, none⟩ = some (.slice none 0 0)) (by kernel_rfl) ⟨x0, x1⟩ (fun hSS => ?_)
     refine tk 0 (some 85) (.fieldAddr 97 (.tmp 7) 0) 0 none hSS ?_
     refine tk 1 (some 86) (.load 3 (.tmp 85)) 3 none hSS ?_
     try simp only [Act.put, zA, zB, zC]
     refine tk 2 (some 87) (.move (.tmp 6)) 3 none hSS ?_
     try simp only [Act.put, zA, zB, zC]
     refine wpAnyH_ready (rs := [3]) (by kernel_rfl) (by simp) (AllReadyH.cons (o := ({ dst := some 88, op := Op.call { callee := Callee.value (Operand.func 153), args := #[Operand.tmp 87], argTypes := #[3] }, type := 97, pos := _, after := _, guard := none } : Oper)) rfl (fun K9 hK9 => ?_) AllReadyH.nil)
     go_simp
     go_at_call 153
     refine Calls.mono HBh.out ?_
     rintro e w2 ⟨rfl, b2⟩
     have y0 := (b2.cell (p := ⟨xb, 0, none⟩) hxl).trans x0
     have y1 := (b2.cell (p := ⟨xb, 1, none⟩) hxl).trans x1
     have HB2 := hid b2
     clear b2 HBh
     refine hK9.out _ _ ⟨y0, y1⟩ (fun hSS => ?_)
     clear hK9 K9
     try simp only [Act.put, zA, zB, zC]
     refine tk 4 (some 89) (.field 97 (.tmp 88) 0) 3 none hSS ?_
     refine tk 5 (some 90) (.binOp .neq 3 (.tmp 86) (.tmp 89) 3) 4 none hSS ?_
     refine tk 6 (some 91) (.move (.tmp 90)) 4 none hSS ?_
     refine tk 7 (some 92) (.fieldAddr 97 (.tmp 7) 1) 0 (some (6, false)) hSS ?_
     try simp only [Act.put, zA, zB, zC]
     refine tk 8 (some 93) (.load 22 (.tmp 92)) 22 (some (6, false)) hSS ?_
     refine tk 9 (some 94) (.call { callee := .builtin .len, args := #[.tmp 93], argTypes := #[22] }) 3 (some (6, false)) hSS ?_
     refine tk 10 (some 95) (.binOp .neq 3 (.tmp 94) (.const (.int .i64 0)) 3) 4 (some (6, false)) hSS ?_
     refine tk 11 (some 96) (.pick (.tmp 91) (.const (.bool true)) (.tmp 95)) 4 none hSS ?_
     try simp only [Act.put, zA, zB, zC]
     refine wpAnyH_done (by kernel_rfl) ?_ _
     have FIN := hid (HFX.out w2 HB2.out)
     clear HFX HB2 y0 y1 x0 x1 hSS m9 d0 d1
     go_wp2_with fail
     go_roundw
     case rel => exact ⟨r + 1, by omega, by go_num, FIN.out⟩
     case measure => simp [intOf]; omega
    ·have hre : r = i + 70 := by omega
     have hr' : ¬ (r : Int) < (i : Int) + 70 := by omega
     have FIN := hid (HFin.out wr hbt)
     clear hbt HC HFin
     go_wp2
     exact FIN.out
open Go.RowKit
theorem LgW.butX {X X0 Y : Nat → Prop} {w w' : World} {g hb hc nb fr bl : Nat} {H : List Int} {ta : Option Addr} {tc : Nat} {vs : List Value} {Us : List (List Pm)} (h : LgW (fun k => X k ∨ X0 k) w g hb hc nb fr bl H ta tc vs Us) (hbt : But Y w w') (hy : ∀ k, k < w.heap.size → Y k → X k) (X' : Nat → Prop) (hx : ∀ k, k < w.heap.size → X' k → X k) : LgW (fun k => X' k ∨ X0 k) w' g hb hc nb fr bl H ta tc vs Us := h.but hbt (fun k hk q => .inl (hy k hk q)) _ (fun k hk q => q.imp (hx k hk) id)
variable {X0 : Nat → Prop}
theorem putsC_say {nb fr bl : Nat} {ps qs : List Pm} (h : qs.map Pm.say = ps.map Pm.say) : putsC nb fr bl qs = putsC nb fr bl ps := by
 induction ps generalizing qs with
 | nil =>
  cases qs with
  | nil => rfl
  | cons a b => simp at h
 | cons p ps ih =>
  cases qs with
  | nil => simp at h
  | cons q qs =>
   simp only [List.map_cons, List.cons.injEq] at h
   have h1 : q.at_ = p.at_ := congrArg Prod.fst h.1
   have h2 : q.data = p.data := congrArg Prod.snd h.1
   unfold putsC
   rw [h1, h2, ih h.2]
theorem diffs_say {ps qs : List Pm} (h : qs.map Pm.say = ps.map Pm.say) : diffs qs = diffs ps := by
 have hl : qs.length = ps.length := by have := congrArg List.length h; simpa using this
 have ha : qs.map Pm.at_ = ps.map Pm.at_ := by
  have e : ∀ l : List Pm, l.map Pm.at_ = (l.map Pm.say).map Prod.fst := fun l => by rw [List.map_map]; rfl
  rw [e, e, h]
 have hat : ∀ i, (qs.getD i ⟨0, none, 0, []⟩).at_ = (ps.getD i ⟨0, none, 0, []⟩).at_ := fun i => by
  have e := congrArg (fun l => l[i]?) ha
  simp only [List.getElem?_map] at e
  rw [List.getD_eq_getElem?_getD, List.getD_eq_getElem?_getD]
  cases h1 : qs[i]? with
  | none =>
   rw [h1] at e
   cases h2 : ps[i]? with
   | none => rfl
   | some b => rw [h2] at e; cases e
  | some a =>
   rw [h1] at e
   cases h2 : ps[i]? with
   | none => rw [h2] at e; cases e
   | some b =>
    rw [h2] at e
    simpa using e
 have hall : ∀ i (x : Int), ((qs.take i).all fun q => decide (q.at_ ≠ x)) = ((ps.take i).all fun q => decide (q.at_ ≠ x)) := fun i x => by
  have e : ∀ l : List Pm, (l.all fun q => decide (q.at_ ≠ x)) = ((l.map Pm.at_).all fun a => decide (a ≠ x)) := fun l => by rw [List.all_map]; rfl
  rw [e, e, List.map_take, List.map_take, ha]
 unfold diffs
 rw [hl]
 congr 1
 refine List.filter_congr fun i _ => ?_
 rw [hall, hat]
theorem appC_on {nb fr bl : Nat} {d : Pd} {s : Js} {ps qs : List Pm} (hon : d.off = false) (h : qs.map Pm.say = ps.map Pm.say) : appC nb fr bl d s qs = fitsC nb fr bl s.seq ps := by
 unfold appC fitsC
 rw [hon, if_neg (by decide), putsC_say h, standP_count, diffs_say h]
def TB (tl td : Value) (Ls : List Ln) (k : Nat) : Prop := tl.ownBlock = some k ∨ TrB td Ls k
structure Wx (X0 Z : Nat → Prop) (w : World) (wb p c j g room nb fr bl K : Nat) (lasted : Nat) (tried tl td : Value) (hb hc : Nat) (H : List Int) (ta : Option Addr) (tc : Nat) (vs : List Value) (Us : List (List Pm)) (Ls : List Ln) (n1 : Nat) (cs : List Value) (d : Pd) (s : Js) : Prop where
 wd : Wb w wb p c (.pointer (some ⟨j, 0, none⟩)) g (room : Int) (lasted : Int) false false tried tl td
 lg : LgW (fun k => (Z k ∨ k = wb ∨ TB tl td Ls k) ∨ X0 k) w g hb hc nb fr bl H ta tc vs Us
 jq : Jq Z w j c p room nb K fr bl d s
 fu : d.fu = -1
 tr : Tr w td Ls []
 ls : w.ownsRow 0 97 2 tl n1 cs
 n1 : n1 ≤ 2147483648
 nl : Ls.length ≤ 1073741823
 zw : ¬ Z wb
 zt : ∀ k, TB tl td Ls k → ¬ Z k
 tw : ¬ TB tl td Ls wb
 lt : ∀ k, tl.ownBlock = some k → ¬ TrB td Ls k
 zb : ∀ k, Z k → k < w.heap.size
 lo : 16 ≤ bl
 fit : fr + bl ≤ nb
 r1 : 1 ≤ room
 r2 : room ≤ 4096
 x0 : ∀ k, X0 k → k < w.heap.size
theorem Wx.nb {Z : Nat → Prop} {w : World} {wb p c j g room nb fr bl K lasted : Nat} {tried tl td : Value} {hb hc : Nat} {H : List Int} {ta : Option Addr} {tc : Nat} {vs : List Value} {Us : List (List Pm)} {Ls : List Ln} {n1 : Nat} {cs : List Value} {d : Pd} {s : Js} (h : Wx X0 Z w wb p c j g room nb fr bl K lasted tried tl td hb hc H ta tc vs Us Ls n1 cs d s) : nb ≤ 524288 := h.jq.fits.2.2
theorem Wx.tlt {Z : Nat → Prop} {w : World} {wb p c j g room nb fr bl K lasted : Nat} {tried tl td : Value} {hb hc : Nat} {H : List Int} {ta : Option Addr} {tc : Nat} {vs : List Value} {Us : List (List Pm)} {Ls : List Ln} {n1 : Nat} {cs : List Value} {d : Pd} {s : Js} (h : Wx X0 Z w wb p c j g room nb fr bl K lasted tried tl td hb hc H ta tc vs Us Ls n1 cs d s) {k : Nat} (hk : TB tl td Ls k) : k < w.heap.size := by
 rcases hk with hk | hk
 ·exact (World.ownsRow.lt h.ls k hk).2
 ·exact h.tr.lt hk
theorem On.us {d : Pd} {s : Js} {nb fr bl lo : Nat} {home : Nat → List Int} {Us : List (List Pm)} (h : On d s nb fr bl lo home (plainT Us)) (hlo : 16 ≤ bl) (hfit : fr + bl ≤ nb) (hnb : nb ≤ 524288) : s.seq = Us.length ∧ Us.length ≤ 1099511627776 := by
 have h1 := h.sq
 have h2 := (h.jn hlo hfit hnb).seq
 have h3 : (plainT Us).length = Us.length := by simp [plainT]
 exact ⟨by omega, by omega⟩
theorem Wx.below {Z : Nat → Prop} {w w' : World} {wb p c j g room nb fr bl K lasted : Nat} {tried tl td : Value} {hb hc : Nat} {H : List Int} {ta : Option Addr} {tc : Nat} {vs : List Value} {Us : List (List Pm)} {Ls : List Ln} {n1 : Nat} {cs : List Value} {d : Pd} {s : Js} (h : Wx X0 Z w wb p c j g room nb fr bl K lasted tried tl td hb hc H ta tc vs Us Ls n1 cs d s) (hb' : Below w.heap.size w w') : Wx X0 Z w' wb p c j g room nb fr bl K lasted tried tl td hb hc H ta tc vs Us Ls n1 cs d s where
 wd := h.wd.keep (hb'.block wb h.wd.lt)
 lg := h.lg.below hb' _ (fun _ _ q => q)
 jq := h.jq.below hb'
 fu := h.fu
 tr := h.tr.keep (fun k _ hk => hb'.block k hk)
 ls := owns_below h.ls hb'
 n1 := h.n1
 nl := h.nl
 zw := h.zw
 zt := h.zt
 tw := h.tw
 lt := h.lt
 zb := fun k q => Nat.lt_of_lt_of_le (h.zb k q) hb'.size
 lo := h.lo
 fit := h.fit
 r1 := h.r1
 r2 := h.r2
 x0 := fun k q => Nat.lt_of_lt_of_le (h.x0 k q) hb'.size
theorem RdP.low {X : Nat → Prop} {w w' : World} {a : Option Addr} {ps : List Pm} (h : RdP X w a ps) (hb : Below w.heap.size w w') : RdP X w' a ps := h.but (But.of_below hb (X := fun _ => False)) (fun _ _ q => q.elim) X (fun _ _ q => q)
theorem lent_rd {Z : Nat → Prop} {w : World} {td : Value} {Ls : List Ln} {ps qs : List Pm} {lb n1 lc : Nat} {cs : List Value} (hT : Tr w td Ls (ps.map Pm.data)) (hLP : LentP Ls ps qs) (hrow : w.ownsRow 0 97 2 (.slice (some ⟨lb, 0, none⟩) n1 lc) n1 ((pmCells qs ++ bhd (ps.length + 70)) ++ cs)) (hisb : ∀ p ∈ ps, Pl.isB p.data) (hZ : ∀ k, TrB td Ls k → ¬ Z k) (hl : ¬ Z lb) : RdP Z w (some ⟨lb, 0, none⟩) qs := by
 refine ⟨fun q hq => ?_, .inr ⟨lb, 0, rfl, (World.ownsRow.lt hrow lb rfl).2, hl, fun t q hq => ?_⟩⟩
 ·obtain ⟨i, hi⟩ := List.mem_iff_getElem?.1 hq
  obtain ⟨L, G, h1, h2, h3⟩ := hLP.2 i q hi
  have e := congrArg (fun l => l[i]?) hLP.1
  simp only [List.getElem?_map, hi, Option.map_some] at e
  cases hp : ps[i]? with
  | none => rw [hp] at e; cases e
  | some pp =>
   rw [hp] at e
   simp only [Option.map_some, Option.some.injEq] at e
   have hda : q.data = pp.data := congrArg Prod.snd e
   obtain ⟨L', G', k1, k2⟩ := hT.lnt i pp.data (by rw [List.getElem?_map, hp]; rfl)
   rw [h1] at k1
   simp only [Option.some.injEq, Prod.mk.injEq] at k1
   obtain ⟨rfl, rfl⟩ := k1
   have hrd := k2.rd (hisb pp (List.mem_of_getElem? hp))
   obtain ⟨a1, a2, a3⟩ := hrd
   rw [hda, h2]
   refine ⟨rfl, a2, ?_⟩
   rcases a3 with a3 | ⟨b, o, a4, a5, a6⟩
   ·exact .inl a3
   ·simp only [Option.some.injEq, Addr.mk.injEq] at a4
    obtain ⟨rfl, rfl, _⟩ := a4
    exact .inr ⟨G, 0, rfl, a5, hZ G (.inr ⟨_, List.mem_of_getElem? h1, .inr rfl⟩), a6⟩
 ·have hc := World.ownsRow.cells hrow (g := lb) rfl
  have hil := (List.getElem?_eq_some_iff.1 hq).1
  have hpl := pmCells_length qs
  obtain ⟨x0, x1⟩ := pmCells_get qs t q hq
  have y0 := hc (t * 2) _ (by rw [List.append_assoc, List.getElem?_append_left (by omega)]; exact x0)
  have y1 := hc (t * 2 + 1) _ (by rw [List.append_assoc, List.getElem?_append_left (by omega)]; exact x1)
  rw [Addr.add_lit] at y0 y1
  exact ⟨y0, y1⟩
end Go.Proofs.YtldlejpacgphmabGreat
