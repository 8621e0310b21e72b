/-
  Package cache: Held.
-/
import Derived.Test.YtokgfnfgpjkpjaaCc3
import Derived.LaidEqlPtr
namespace Go.Proofs.Ytokgfnfgpjkpjaa
open Go.RowKit Go.ChangeMaps

theorem Lk.get {f : Nat → En} : ∀ {l : List Nat}, Lk f l → ∀ (k x y : Nat), l[k]? = some x → l[k + 1]? = some y → (f x).af = y
  | [], _, k, x, y, h, _ => by simp at h
  | [_], _, k, x, y, _, h => by simp at h
  | a :: b :: t, h, 0, x, y, h1, h2 => by
    simp at h1 h2
    subst h1 h2
    exact h.1
  | a :: b :: t, h, k + 1, x, y, h1, h2 => h.2.2.get k x y (by simpa using h1) (by simpa using h2)
/-- the k-th entry of the ring, behind the first; behind the last: the first -/
def rat (es : List Nat) (r k : Nat) : Nat := (es ++ [r]).getD k r
theorem rat_get {es : List Nat} {r k : Nat} (h : k ≤ es.length) : (es ++ [r])[k]? = some (rat es r k) := by
  unfold rat
  rw [List.getD_eq_getElem?_getD, List.getElem?_eq_getElem (by simp; omega)]
  rfl
theorem rat_lt {es : List Nat} {r k : Nat} (h : k < es.length) : rat es r k = es[k] := by
  unfold rat
  rw [List.getD_eq_getElem?_getD, List.getElem?_append_left h, List.getElem?_eq_getElem h]
  rfl
theorem rat_end {es : List Nat} {r : Nat} : rat es r es.length = r := by
  unfold rat
  rw [List.getD_eq_getElem?_getD, List.getElem?_append_right (Nat.le_refl _)]
  simp
theorem Rg.start {f : Nat → En} {r : Nat} {es : List Nat} (h : Rg f r es) : (f r).af = rat es r 0 :=
  h.2.get 0 r _ (by simp) (by rw [List.cons_append, List.getElem?_cons_succ]; exact rat_get (Nat.zero_le _))
theorem Rg.go {f : Nat → En} {r : Nat} {es : List Nat} (h : Rg f r es) {k : Nat} (hk : k < es.length) : (f (rat es r k)).af = rat es r (k + 1) :=
  h.2.get (k + 1) _ _ (by rw [List.cons_append, List.getElem?_cons_succ]; exact rat_get (by omega)) (by rw [List.cons_append, List.getElem?_cons_succ]; exact rat_get (by omega))
theorem Rg.off {f : Nat → En} {r : Nat} {es : List Nat} (h : Rg f r es) {k : Nat} (hk : k < es.length) : rat es r k ∈ es ∧ rat es r k ≠ r := by
  rw [rat_lt hk]
  exact ⟨List.getElem_mem hk, fun e => (List.nodup_cons.1 h.1).1 (by rw [← e]; exact List.getElem_mem hk)⟩
theorem newsV1 (w : World) (v : Value) (t : TypeId) {S : Nat} (hS : w.heap.size = S) : ∀ j u, [v][j]? = some u → (w.alloc (.cells #[v] t)).cell? ((⟨S, 0, none⟩ : Addr).add j) = some u := by
  subst hS
  intro j u h
  match j, h with
  | 0, h => simp at h; subst h; simp [Addr.add]

theorem info66 : (Try.prog.info? 66).map (·.size) = some 4 := by kernel_rfl
theorem neq_same (w : World) (a : Addr) : (binOp .neq 45 (.pointer (some a)) (.pointer (some a))).run Try.prog w = .ok (.bool false) w := by
  obtain ⟨j, hj, _⟩ := Option.map_eq_some_iff.1 info66
  have h : ∀ d : Nat, (Op.equalIn (d + 1) 45 (.pointer (some a)) (.pointer (some a))).run Try.prog w = .ok true w := fun d => by
    simp [Op.equalIn, run_underlying Try.underlying45, sizeOf, typeInfo, hj, run_sameAddr_same]
  simp only [binOp]
  simp [Op.equal, Op.maxDepth, h 9999]
theorem neq_other {w : World} {x y : Nat} {e e' : En} (hne : x ≠ y) (hx : EnB w x e) (hy : EnB w y e') : (binOp .neq 45 (.pointer (some ⟨x, 0, none⟩)) (.pointer (some ⟨y, 0, none⟩))).run Try.prog w = .ok (.bool true) w := by
  obtain ⟨j, hj, hs⟩ := Option.map_eq_some_iff.1 info66
  have hsz : j.size ≠ 0 := by rw [hs]; decide
  have hne' : (⟨x, 0, none⟩ : Addr) ≠ ⟨y, 0, none⟩ := fun q => hne (by injection q)
  have h : ∀ d : Nat, (Op.equalIn (d + 1) 45 (.pointer (some ⟨x, 0, none⟩)) (.pointer (some ⟨y, 0, none⟩))).run Try.prog w = .ok false w := fun d => by
    simp [Op.equalIn, run_underlying Try.underlying45, sizeOf, typeInfo, hj, hsz, run_sameAddr_other w hne' hx hy]
  simp only [binOp]
  simp [Op.equal, Op.maxDepth, h 9999]
def sLen : Value → Nat
  | .slice _ n _ => n
  | _ => 0
set_option maxRecDepth 100000 in
set_option maxHeartbeats 2000000 in
theorem Held_any {X : Nat → Prop} {w : World} {c p room : Nat} {hi mi : Int} {l : List (Int × List Int)} (h : Cst X w c p room hi mi l) (hr : room ≤ 4096) :
    Calls Try.prog 17 #[.pointer (some ⟨c, 0, none⟩)] w fun q w' => ∃ al cp, q = .returned (.tuple #[.slice al l.length cp, .int .i64 0]) ∧ OwI w.heap.size w' (.slice al l.length cp) l.length (l.map (·.1)) ∧ Below w.heap.size w w' := by
  obtain ⟨r, mp, n, es, f, Z, h1, rfl, h3, h4, h5, h6⟩ := h
  have hvl : (view es f Z).length = es.length := view_len es f Z
  have hvm : (view es f Z).map (·.1) = es.map (fun e => (f e).at_) := by unfold view; rw [List.map_map]; rfl
  rw [hvl, hvm]
  obtain ⟨D, hm, hD⟩ := h1.map
  obtain ⟨x0, x1, x2, x3, x4, x5⟩ := h1.blk.cells
  have hcl := h1.blk.lt
  have hlen := fun ty => World.ownsMap.len hm Try.underlying46 ty
  have hlend := fun ty => World.ownsMap.len (ownsMap_keep (w' := w.drew) hm rfl) Try.underlying46 ty
  rw [hD.size] at hlen hlend
  obtain ⟨i3, hi3, hz3, hs3, hb3⟩ := info_parts infoI
  have HE : Hid (∀ k, k ≤ es.length → EnB w (rat es r k) (f (rat es r k)) ∧ w.cell? ⟨rat es r k, 0, none⟩ = some (.int .i64 (f (rat es r k)).at_) ∧ w.cell? ⟨rat es r k, 3, none⟩ = some (.pointer (some ⟨(f (rat es r k)).af, 0, none⟩))) := fun k hk => by
    have hmem : rat es r k ∈ r :: es := by
      by_cases hk2 : k < es.length
      · exact List.mem_cons_of_mem _ (h1.ring.off hk2).1
      · rw [show k = es.length by omega, rat_end]; simp
    exact ⟨h1.ens _ hmem, (h1.ens _ hmem).cells.1, (h1.ens _ hmem).cells.2.2.2⟩
  have HR := hid h1.ring
  have r3 := (h1.ens r (by simp)).cells.2.2.2
  rw [h1.ring.start] at r3
  have HEr := hid (h1.ens r (by simp))
  have hrl := (h1.ens r (by simp)).lt
  clear h1 hm hD hvl hvm h6
  obtain ⟨w1, hmk, ho1, hg1⟩ := run_make_own (P := Try.prog) w w.heap.size 22 3 i3 (.int .i64 0) 1 Try.underlying22 hi3 hz3 hs3 .i64 .i64 es.length (by rw [hb3]; omega) (by unfold maxLen; omega) (Nat.le_refl _)
  have b1 : Below w.heap.size w w1 := ⟨hg1.os, hg1.tape, hg1.output, hg1.size, fun k hk => hg1.block k hk (by simp)⟩
  have y2 := (b1.cell (p := ⟨c, 2, none⟩) hcl).trans x2
  have t3 := (b1.cell (p := ⟨r, 3, none⟩) hrl).trans r3
  have H1 := hid (And.intro ho1 b1)
  clear ho1 hg1 b1
  go_enter Try.func17, Try.ntmps17
  go_wp2_with fail
  clear y2 t3 hmk hlen hlend x3
  go_loopw [4, 5] (fun v q wt => ∃ k : Nat, k ≤ es.length ∧ q = .pointer (some ⟨rat es r k, 0, none⟩) ∧ OwI w.heap.size wt v k ((es.map (fun e => (f e).at_)).take k) ∧ Below w.heap.size w wt) (fun v _ _ => es.length - sLen v)
  case atStart => exact ⟨0, Nat.zero_le _, rfl, H1.out.1, H1.out.2⟩
  case round =>
    clear H1
    obtain ⟨k, hk, rfl, hO, hbt⟩ := hrel
    have z2 := (hbt.cell (p := ⟨c, 2, none⟩) hcl).trans x2
    obtain ⟨aO, cO, rfl, _⟩ := owns_slice hO
    by_cases hkn : k < es.length
    · obtain ⟨heb, e0, e3⟩ := HE.out k hk
      have hel := heb.lt
      have hqq := neq_other (HR.out.off hkn).2 ((hbt.block _ hel).trans heb) ((hbt.block r hrl).trans HEr.out)
      clear heb
      have c0 := (hbt.cell (p := ⟨rat es r k, 0, none⟩) hel).trans e0
      rw [HR.out.go hkn] at e3
      have hne := (HR.out.off hkn).2
      have hst : (es.map (fun e => (f e).at_)).take (k + 1) = (es.map (fun e => (f e).at_)).take k ++ [(f (rat es r k)).at_] := by
        rw [List.take_succ_eq_append_getElem (by simpa using hkn), rat_lt hkn]
        simp
      generalize (f (rat es r k)).at_ = x at *
      have HOa := hid (hO.alloc (.cells #[.int .i64 x] 3))
      have Hst := hid hst
      have Hbt := hid hbt
      have hws : w.heap.size ≤ wr.heap.size := hbt.size
      have HX := hid (And.intro hel e3)
      generalize rat es r k = y at *
      clear hst hO hbt e0 e3
      go_wp2_with (at_builtin; refine wpList_append_lies _ rfl _ _ 22 (by rfl) w.heap.size 3 i3 (.int .i64 0) 1 8 Try.underlying22 hi3 hz3 hs3 hb3 rfl (by decide) _ k (((es.map (fun e => (f e).at_)).take k).map (Value.int .i64)) (by rfl) HOa.out ⟨wr.heap.size, 0, none⟩ 1 1 [.int .i64 x] (by rfl) (by rfl) (by exact newsV1 _ _ _ rfl) (by intro u hu; simp at hu; subst hu; rfl) (by decide) (by unfold maxLen; omega) (by omega) (by simp; omega) (wr.heap.size + 1) (by simp) ?_)
      intro g4 cap4 w6 ho4 hg4 hlie4 _
      have HO4 := hid ho4
      have hb4 := (Hbt.out.alloc hws (.cells #[.int .i64 x] 3)).grown hg4 (by simp; omega) (fun x e => (World.ownsRow.lt HOa.out x e).1)
      have d3 := (hb4.cell (p := ⟨y, 3, none⟩) HX.out.1).trans HX.out.2
      have HB4 := hid hb4
      clear ho4 hg4 hlie4 c0 hb4 z2
      go_wp2_with fail
      go_roundw
      case rel => exact ⟨k + 1, by omega, rfl, by rw [Hst.out]; unfold OwI; rw [List.map_append, List.map_take, List.map_map]; exact HO4.out, HB4.out⟩
      case measure => simp [sLen]; omega
    · obtain rfl : k = es.length := by omega
      have Hbt := hid hbt
      have HO := hid hO
      have hqq := neq_same wr ⟨r, 0, none⟩
      rw [rat_end] at *
      clear hO hbt
      go_wp2
      go_ret2
      refine ⟨aO, cO, rfl, ?_, Hbt.out⟩
      have := HO.out
      rw [List.take_of_length_le (by simp)] at this
      exact this

end Go.Proofs.Ytokgfnfgpjkpjaa
