/-
  The document's answer: Parse.
-/
import Derived.Test.YtahaehjmnafhbaaPs3
namespace Go.Proofs.Ytahaehjmnafhbaa
open Go.RowKit

def PsP (zs : List Int) (w : World) (e : Ending) (w' : World) : Prop :=
  Below w.heap.size w w' ∧ ((∃ E, takP zs = (E, none) ∧ E ≠ 0 ∧ e = .returned (.tuple #[.agg #[.string ⟨#[]⟩, .int .i64 0, .string ⟨#[]⟩, .int .i64 0, .slice none 0 0], .int .i64 E])) ∨
    ∃ h l ra rc, takP zs = (0, some (h, l)) ∧ e = .returned (.tuple #[.agg #[.string (strOfNums h.name), .int .i64 h.size, .string (strOfNums h.since), .int .i64 h.sum, .slice ra l.length rc], .int .i64 0]) ∧ RRd w' ra l)

theorem str_beq {xs ys : List Int} (h1 : Pl.isB xs) (h2 : Pl.isB ys) : ((strOfNums xs).toList == (strOfNums ys).toList) = decide (xs = ys) := by
  rw [Lib.strOfNums_toList, Lib.strOfNums_toList]
  by_cases q : xs = ys
  · simp [q]
  · have : ¬ Lib.bytesOf xs = Lib.bytesOf ys := fun r => q (bytes_inj h1 h2 r)
    simp [q, this]
theorem magic_list : ([67, 83, 84, 49] : List UInt8) = (strOfNums [67, 83, 84, 49]).toList := by rw [Lib.strOfNums_toList]; rfl

set_option maxRecDepth 100000 in
set_option maxHeartbeats 1000000 in
theorem parse_nil (w : World) : Calls Try.prog 13 #[.slice none 0 0] w fun e w' => e = .returned (.tuple #[.agg #[.string ⟨#[]⟩, .int .i64 0, .string ⟨#[]⟩, .int .i64 0, .slice none 0 0], .int .i64 150]) ∧ Below w.heap.size w w' := by
  have hb := hid ((Below.refl w.heap.size w).alloc (Nat.le_refl _) (.cells #[.string ⟨#[]⟩, .int .i64 0, .string ⟨#[]⟩, .int .i64 0, .slice none 0 0] 47))
  go_enter Try.func13, Try.ntmps13
  go_wp2
  exact bodyPost_ret (results_row_tmp rfl _ _ w.heap.size 47 #[.string ⟨#[]⟩, .int .i64 0, .string ⟨#[]⟩, .int .i64 0, .slice none 0 0] (0, 0) _ (.int .i64 150) rfl rfl Array.getElem?_push_size Try.underlying47 rfl (by kernel_rfl)) rfl ⟨rfl, hb.out⟩

set_option maxRecDepth 100000 in
set_option maxHeartbeats 4000000 in
/-- the tape -/
theorem tail_any {w w4 : World} {B kk r0 sb : Nat} {s : St} (PO : Ending → World → Prop) (hs : s.1.length ≤ 16777216) (hT : TkS 63 w4 kk s) (hS : Snb w4 sb ⟨#[]⟩ ⟨#[]⟩ 0 0 (.slice none 0 0)) (hz : w4.heap[r0]? = some (.cells #[.string ⟨#[]⟩, .int .i64 0, .string ⟨#[]⟩, .int .i64 0, .slice none 0 0] 47 (0, 0))) (hbl : Below B w w4)
    (o1 : B ≤ w.heap.size) (o2 : B ≤ r0) (o3 : r0 < kk) (o4 : kk < sb)
    (FAIL : ∀ l s', runsR (hdG tp s).count.toNat (hdS tp s) = (l, s') → (s'.2 = true ∨ s'.1 ≠ [] ∨ mayB (hdG tp s) l = false) → ∀ u, Below B w u → PO (.returned (.tuple #[.agg #[.string ⟨#[]⟩, .int .i64 0, .string ⟨#[]⟩, .int .i64 0, .slice none 0 0], .int .i64 150])) u)
    (GOOD : ∀ l s', runsR (hdG tp s).count.toNat (hdS tp s) = (l, s') → s'.2 = false → s'.1 = [] → mayB (hdG tp s) l = true → ∀ u ra rc, Below B w u → RRd u ra l → PO (.returned (.tuple #[.agg #[.string (strOfNums (hdG tp s).name), .int .i64 (hdG tp s).size, .string (strOfNums (hdG tp s).since), .int .i64 (hdG tp s).sum, .slice ra l.length rc], .int .i64 0])) u) :
    TailC (strOfNums (hdG tp s).name) (strOfNums (hdG tp s).since) (hdG tp s).size (hdG tp s).sum (hdG tp s).count.toNat r0 kk sb PO w4 := by
  have hB : Pl.isB s.1 := by obtain ⟨_, _, z⟩ := hT; exact z.1
  have e1 : Pl.isB (h1 tp s).1 ∧ (h1 tp s).1.length ≤ s.1.length := by unfold h1; exact ⟨(txT_bd hB).2.1, (txT_bd hB).1⟩
  have e2 : Pl.isB (h2 tp s).1 ∧ (h2 tp s).1.length ≤ (h1 tp s).1.length := by unfold h2; exact ⟨(nbT_bd (m := 4) e1.1 (by decide)).2.2.2, (nbT_bd (m := 4) e1.1 (by decide)).2.2.1⟩
  have e3 : Pl.isB (h3 tp s).1 ∧ (h3 tp s).1.length ≤ (h2 tp s).1.length := by unfold h3; exact ⟨(txT_bd e2.1).2.1, (txT_bd e2.1).1⟩
  have e4 : Pl.isB (h4 tp s).1 ∧ (h4 tp s).1.length ≤ (h3 tp s).1.length := by unfold h4; exact ⟨(nbT_bd (m := 4) e3.1 (by decide)).2.2.2, (nbT_bd (m := 4) e3.1 (by decide)).2.2.1⟩
  have d5 := nbT_bd (m := 4) e4.1 (by decide)
  have e5 : (hdS tp s).1.length ≤ (h4 tp s).1.length := by unfold hdS; exact d5.2.2.1
  have ecn : (hdG tp s).count = (nbG tp (h4 tp s) 4).1 := by unfold hdG; with_reducible rfl
  have en : (hdG tp s).name = (txG tp s).1 := by unfold hdG; with_reducible rfl
  have ez : (hdG tp s).size = (nbG tp (h1 tp s) 4).1 := by unfold hdG; with_reducible rfl
  have es : (hdG tp s).since = (txG tp (h2 tp s)).1 := by unfold hdG; with_reducible rfl
  have em : (hdG tp s).sum = (nbG tp (h3 tp s) 4).1 := by unfold hdG; with_reducible rfl
  have kcn : (((hdG tp s).count.toNat : Nat) : Int) = (nbG tp (h4 tp s) 4).1 := by rw [ecn]; have := d5.1; omega
  have kcl : (hdG tp s).count.toNat < 4294967296 := by have := d5.2.1; omega
  have n1 := txT_bd hB
  have n2 := txT_bd e2.1
  rw [← en] at n1
  rw [← es] at n2
  have LOOP := loop_any (w := w) (B := B) (kk := kk) (r0 := r0) (sb := sb) (h := hdG tp s) (cn := (hdG tp s).count.toNat) (s0 := hdS tp s) PO (by omega) o1 o2 o3 o4 n1.2.2.1 n2.2.2.1 (by omega) (by omega) kcl FAIL GOOD
  have hkl := hT.lt
  have hBk : B ≤ kk := by omega
  have hown : ∀ {u u' : World}, But (fun x => x = kk) u u' → r0 < u.heap.size → u'.heap[r0]? = u.heap[r0]? := fun hb hl => hb.block r0 hl (by omega)
  -- number, then take
  have TX : ∀ {u : World} {q : St}, q.1.length ≤ 16777216 → Pl.isB q.1 → TkS 63 u kk q → Calls Try.prog 22 #[.pointer (some ⟨kk, 0, none⟩), .int .i64 1] u fun e u1 => e = .returned (.int .i64 (nbG tp q 1).1) ∧ Calls Try.prog 21 #[.pointer (some ⟨kk, 0, none⟩), .int .i64 (nbG tp q 1).1] u1 fun e u2 => ∃ a n c, e = .returned (.slice a n c) ∧ Sem.run Try.prog (convert 22 9 (.slice a n c)) u2 = .ok (.string (strOfNums (txG tp q).1)) u2 ∧ TkS 63 u2 kk (txG tp q).2 ∧ But (fun x => x = kk) u u2 := by
    intro u q hq hqB hTu
    have hb := nbT_bd (m := 1) hqB (by decide)
    refine Calls.mono (tnumber_any 1 (by decide) (by decide) hq hTu) ?_
    rintro e u1 ⟨rfl, T1, v1⟩
    refine ⟨rfl, Calls.mono (take_any (nbG tp q 1).1 hb.1 (by omega) (by omega) T1) ?_⟩
    rintro e u2 ⟨v, rfl, hv, T2, v2, _⟩
    obtain ⟨a, c, rfl, _, hR⟩ := hv.rd
    unfold txG
    exact ⟨a, _, c, rfl, conv_str hR c, T2, v1.trans v2⟩
  have SC : ∀ {u : World} {i : Nat} {v : Value}, But (fun x => x = sb) u (u.setCell ⟨sb, i, none⟩ v) := fun {u i v} => (But.refl (fun x => x = sb) u).setCell (p := ⟨sb, i, none⟩) rfl v
  have hrl := (Array.getElem?_eq_some_iff.1 hz).1
  have hsl := hS.lt
  unfold TailC
  refine Calls.mono (TX hs hB hT) ?_
  rintro e u1 ⟨rfl, hx⟩
  refine ⟨_, rfl, Calls.mono hx ?_⟩
  rintro e u2 ⟨a, n, c, rfl, hcv, T2, v2⟩
  have T2 : TkS 63 u2 kk (h1 tp s) := by unfold h1; exact T2
  have S2 := hS.keep (v2.block sb hsl (by omega))
  have z2 := v2.size
  refine ⟨a, n, c, rfl, by rw [en]; exact hcv, S2.cells.1, S2.fz 0, ?_⟩
  have c2 := SC (u := u2) (i := 0) (v := .string (strOfNums (hdG tp s).name))
  have c2z := c2.size
  refine Calls.mono (tnumber_any 4 (by decide) (by decide) (by omega) (T2.but c2 (fun x hx => by omega))) ?_
  rintro e u3 ⟨rfl, T3, v3⟩
  have T3 : TkS 63 u3 kk (h2 tp s) := by unfold h2; exact T3
  have S3 := (S2.s0 (strOfNums (hdG tp s).name)).keep (v3.block sb (by omega) (by omega))
  have z3 := v3.size
  refine ⟨by rw [ez], S3.cells.2.1, S3.fz 1, ?_⟩
  have c3 := SC (u := u3) (i := 1) (v := .int .i64 (hdG tp s).size)
  have c3z := c3.size
  refine Calls.mono (TX (by omega) e2.1 (T3.but c3 (fun x hx => by omega))) ?_
  rintro e u4 ⟨rfl, hx4⟩
  refine ⟨_, rfl, Calls.mono hx4 ?_⟩
  rintro e u5 ⟨a5, n5, c5, rfl, hcv5, T5, v5⟩
  have T5 : TkS 63 u5 kk (h3 tp s) := by unfold h3; exact T5
  have S5 := (S3.s1 (hdG tp s).size).keep (v5.block sb (by omega) (by omega))
  have z5 := v5.size
  refine ⟨a5, n5, c5, rfl, by rw [es]; exact hcv5, S5.cells.2.2.1, S5.fz 2, ?_⟩
  have k5 := SC (u := u5) (i := 2) (v := .string (strOfNums (hdG tp s).since))
  have k5z := k5.size
  refine Calls.mono (tnumber_any 4 (by decide) (by decide) (by omega) (T5.but k5 (fun x hx => by omega))) ?_
  rintro e u6 ⟨rfl, T6, v6⟩
  have T6 : TkS 63 u6 kk (h4 tp s) := by unfold h4; exact T6
  have S6 := (S5.s2 (strOfNums (hdG tp s).since)).keep (v6.block sb (by omega) (by omega))
  have z6 := v6.size
  refine ⟨by rw [em], S6.cells.2.2.2.1, S6.fz 3, ?_⟩
  have k6 := SC (u := u6) (i := 3) (v := .int .i64 (hdG tp s).sum)
  have k6z := k6.size
  refine Calls.mono (tnumber_any 4 (by decide) (by decide) (by omega) (T6.but k6 (fun x hx => by omega))) ?_
  rintro e u7 ⟨rfl, T7, v7⟩
  have T7 : TkS 63 u7 kk (hdS tp s) := by unfold hdS; exact T7
  have S7 := (S6.s3 (hdG tp s).sum).keep (v7.block sb (by omega) (by omega))
  have X : ∀ {u u' : World}, But (fun x => x = kk) u u' → But (fun x => x = kk ∨ x = sb) u u' := fun hb => hb.mono (fun x _ z => .inl z)
  have Y : ∀ {u u' : World}, But (fun x => x = sb) u u' → But (fun x => x = kk ∨ x = sb) u u' := fun hb => hb.mono (fun x _ z => .inr z)
  have all : But (fun x => x = kk ∨ x = sb) w4 u7 := ((((((((X v2).trans (Y c2)).trans (X v3)).trans (Y c3)).trans (X v5)).trans (Y k5)).trans (X v6)).trans (Y k6)).trans (X v7)
  refine ⟨by rw [kcn], Lir w B kk r0 sb (hdG tp s) (hdG tp s).count.toNat (hdS tp s), ?_, LOOP⟩
  refine ⟨⟨[], hdS tp s, .slice none 0 0, [], rfl, Nat.zero_le _, T7, Nat.le_refl _, S7, ⟨rfl, .inl ⟨rfl, rfl⟩⟩, ⟨rfl, fun j r hj => by simp at hj⟩, (fun g hg => by cases hg), by simp⟩, ?_, ?_⟩
  · rw [all.block r0 hrl (by omega)]; exact hz
  · exact hbl.trans (all.below (by have := hbl.size; omega) (fun x hx z => by omega))

end Go.Proofs.Ytahaehjmnafhbaa
