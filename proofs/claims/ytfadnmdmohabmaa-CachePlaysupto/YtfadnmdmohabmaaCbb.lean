/-
  Package cache: Read of any block.
-/
import Derived.Test.YtfadnmdmohabmaaCba
import Derived.LaidEqlPtr
namespace Go.Proofs.Ytfadnmdmohabmaa
open Go.RowKit Go.ChangeMaps

/-- what is held is what the disk would read -/
def Good (l : List (Int × List Int)) (img : List Int) (puts : List (Nat × List Int)) (nb : Nat) : Prop := ∀ q ∈ l, 0 ≤ q.1 ∧ q.1 < nb ∧ q.2 = seenZ img puts q.1.toNat
abbrev inL (l : List (Int × List Int)) (x : Int) : Prop := x ∈ l.map (·.1)
def hitN (l : List (Int × List Int)) (cd x : Int) : Int := if cd = 0 ∧ inL l x then 1 else 0
def missN (l : List (Int × List Int)) (cd x : Int) : Int := if cd = 0 ∧ ¬ inL l x then 1 else 0
def readL (room : Nat) (l : List (Int × List Int)) (rr : Int × List Int) (x : Int) : List (Int × List Int) := if rr.1 = 0 then holdL room l x rr.2 else l
theorem view_move {room : Nat} {A B : List Nat} {e : Nat} {f f' : Nat → En} {Z Z' : Nat → List Int} {D : DataW Nat} (hD : BM D (A ++ e :: B) f) (hnd : (A ++ e :: B).Nodup) (hrm : (A ++ e :: B).length ≤ room) (q2 : ∀ y, (f' y).at_ = (f y).at_) (q4 : ∀ y, y ≠ e → Z' y = Z y) : view (A ++ B ++ [e]) f' Z' = holdL room (view (A ++ e :: B) f Z) (f e).at_ (Z' e) := by
  obtain ⟨n1, n2, n3⟩ := List.nodup_append.1 hnd
  have hA : ∀ y ∈ A, y ≠ e := fun y hy q => n3 y hy e (by simp) q
  have hB : ∀ y ∈ B, y ≠ e := fun y hy q => (List.nodup_cons.1 n2).1 (by rw [← q]; exact hy)
  have hA' : ∀ y ∈ A, (f y).at_ ≠ (f e).at_ := fun y hy q => hA y hy (hD.uniq (by simp [hy]) (by simp) q)
  have hB' : ∀ y ∈ B, (f y).at_ ≠ (f e).at_ := fun y hy q => hB y hy (hD.uniq (by simp [hy]) (by simp) q)
  have e1 : view (A ++ B ++ [e]) f' Z' = view A f Z ++ view B f Z ++ [((f e).at_, Z' e)] := by
    rw [view_app, view_app, view_congr (es := A) (f := f) (Z := Z) (fun y hy => ⟨q2 y, q4 y (hA y hy)⟩), view_congr (es := B) (f := f) (Z := Z) (fun y hy => ⟨q2 y, q4 y (hB y hy)⟩)]
    simp [view, q2]
  have e2 : (view (A ++ e :: B) f Z).filter (fun q => q.1 ≠ (f e).at_) = view A f Z ++ view B f Z := by
    have : view (A ++ e :: B) f Z = view A f Z ++ ((f e).at_, Z e) :: view B f Z := by simp [view]
    rw [this, List.filter_append, view_none hA']
    simp only [ne_eq, decide_not, List.filter_cons, decide_true, Bool.not_true, Bool.false_eq_true, if_false]
    have hf := view_none (Z := Z) hB'
    simp only [ne_eq, decide_not] at hf
    rw [hf]
  unfold holdL
  rw [e2, e1, if_neg]
  simp [view_len] at hrm ⊢
  omega
set_option maxHeartbeats 1000000 in
theorem CRead_any {X Y : Nat → Prop} {w : World} {c p room : Nat} {hi mi : Int} {l : List (Int × List Int)} {img : List Int} {puts : List (Nat × List Int)} {fu : Int} {off : Bool} {nb : Nat} (h : CD X Y w c p room hi mi l img puts fu off nb) (hv : Good l img puts nb) (hl : puts.length ≤ 1073741824) {x : Int} (hwf : (Lit.int .i64 x).wf = true) (hhi : 0 ≤ hi ∧ hi < 4611686018427387904) (hmi : 0 ≤ mi ∧ mi < 4611686018427387904) :
    Calls Try.prog 12 #[.pointer (some ⟨c, 0, none⟩), .int .i64 x] w fun q w' => ∃ al cp, q = .returned (.tuple #[.slice al (readR img puts off nb x).2.length cp, .int .i64 (readR img puts off nb x).1]) ∧
      ((al = none ∧ cp = 0 ∧ (readR img puts off nb x).2 = []) ∨ ∃ g, al = some ⟨g, 0, none⟩ ∧ w.heap.size ≤ g ∧ Own w' g (readR img puts off nb x).2.length cp (readR img puts off nb x).2) ∧
      (∃ X' Y', CD X' Y' w' c p room (hi + hitN l (readR img puts off nb x).1 x) (mi + missN l (readR img puts off nb x).1 x) (readL room l (readR img puts off nb x) x) img puts fu off nb ∧ Grown X Y X' Y' w) ∧ But (fun k => X k ∨ Y k) w w' := by
  by_cases hin : inL l x
  · obtain ⟨q0, hq0, hqx⟩ := List.mem_map.1 hin
    obtain ⟨v0, v1, v2⟩ := hv q0 hq0
    obtain ⟨r, mp, n, es, f, Z, h1, rfl, h3, h4, h5, h6⟩ := h.ca
    unfold view at hq0
    obtain ⟨e, he, rfl⟩ := List.mem_map.1 hq0
    simp only at hqx v0 v1 v2
    subst hqx
    cases off with
    | true =>
      have hrr : readR img puts true nb (f e).at_ = (24, []) := rfl
      rw [hrr]
      refine Calls.mono (CRead_off h1 he h.dk hl hwf) ?_
      rintro q w' ⟨rfl, b⟩
      refine ⟨none, 0, rfl, .inl ⟨rfl, rfl, rfl⟩, ?_, But.of_below b⟩
      have := h.below b
      simpa [hitN, missN, readL] using this
    | false =>
      have hrr : readR img puts false nb (f e).at_ = (0, Z e) := by
        unfold readR
        rw [if_neg (by simp), if_neg (by omega), v2]
      rw [hrr]
      obtain ⟨A, B, rfl⟩ := List.append_of_mem he
      have hlen : (Z e).length = 512 := by rw [v2]; exact (h.dk.seen (by omega)).1
      obtain ⟨D, hm, hD⟩ := h1.map
      refine Calls.mono (CRead_hit h1 h.dk hhi hwf) ?_
      rintro q w' ⟨g, cap, rfl, q1, q2, ⟨f', q3, q4⟩, b⟩
      refine ⟨some ⟨g, 0, none⟩, cap, by simp only [hlen], .inr ⟨g, rfl, q1, by simp only [hlen]; exact q2⟩, ?_, b.mono (fun k _ q => .inr q)⟩
      have e1 : hitN (view (A ++ e :: B) f Z) (0, Z e).1 (f e).at_ = 1 := by unfold hitN; rw [if_pos ⟨rfl, hin⟩]
      have e2 : missN (view (A ++ e :: B) f Z) (0, Z e).1 (f e).at_ = 0 := by unfold missN; rw [if_neg (fun q => q.2 hin)]
      have e3 : readL room (view (A ++ e :: B) f Z) (0, Z e) (f e).at_ = view (A ++ B ++ [e]) f' Z := by
        unfold readL
        rw [if_pos rfl]
        exact (view_move hD (List.nodup_cons.1 h1.ring.1).2 h3 q4 (fun _ _ => rfl)).symm
      rw [e1, e2, e3, Int.add_zero]
      refine ⟨fun k => X k ∧ k < w.heap.size, Y, ⟨⟨r, mp, n, _, f', Z, q3, rfl, by simp at h3 ⊢; omega, h4, h5, fun y hy => by rw [q4]; exact h6 y (by simp at hy ⊢; rcases hy with q | q | q <;> simp [q])⟩, h.dk.cut.but b (fun k q q' => h.dj k q' q.1), fun k q q' => h.dj k q q'.1⟩, fun k hk => ⟨fun q => q.1, fun q => q⟩⟩
  · have hx : ∀ q ∈ l, q.1 ≠ x := fun q hq e => hin (List.mem_map.2 ⟨q, hq, e⟩)
    by_cases hz : (readR img puts off nb x).1 = 0
    · have hlen : (readR img puts off nb x).2.length = 512 := by
        unfold readR at hz ⊢
        split at hz
        · simp at hz
        · split at hz
          · simp at hz
          · rw [if_neg ‹_›, if_neg ‹_›]
            exact (h.dk.seen (by omega)).1
      refine Calls.mono (CRead_miss h hl hwf hx hmi hz) ?_
      rintro q w' ⟨g, cap, rfl, q1, q2, q3, b⟩
      have e1 : hitN l (readR img puts off nb x).1 x = 0 := by unfold hitN; rw [if_neg (fun q => hin q.2)]
      have e2 : missN l (readR img puts off nb x).1 x = 1 := by unfold missN; rw [if_pos ⟨hz, hin⟩]
      have e3 : readL room l (readR img puts off nb x) x = holdL room l x (readR img puts off nb x).2 := by unfold readL; rw [if_pos hz]
      refine ⟨some ⟨g, 0, none⟩, cap, by rw [hlen, hz], .inr ⟨g, rfl, q1, by rw [hlen]; exact q2⟩, ?_, b⟩
      rw [e1, e2, e3, Int.add_zero]
      exact q3
    · have hrr : (readR img puts off nb x).2 = [] := by
        unfold readR at hz ⊢
        split
        · rfl
        · split
          · rfl
          · rw [if_neg ‹_›, if_neg ‹_›] at hz
            exact absurd rfl hz
      refine Calls.mono (CRead_bad h hl hwf hx hz) ?_
      rintro q w' ⟨rfl, b⟩
      have e1 : hitN l (readR img puts off nb x).1 x = 0 := by unfold hitN; rw [if_neg (fun q => hz q.1)]
      have e2 : missN l (readR img puts off nb x).1 x = 0 := by unfold missN; rw [if_neg (fun q => hz q.1)]
      have e3 : readL room l (readR img puts off nb x) x = l := by unfold readL; rw [if_neg hz]
      refine ⟨none, 0, by rw [hrr]; rfl, .inl ⟨rfl, rfl, hrr⟩, ?_, But.of_below b⟩
      rw [e1, e2, e3, Int.add_zero, Int.add_zero]
      exact h.below b

end Go.Proofs.Ytfadnmdmohabmaa

/-
  Package cache: Held.
-/
namespace Go.Proofs.Ytfadnmdmohabmaa
open Go.RowKit Go.ChangeMaps

theorem Lk.get {f : Nat → En} : ∀ {l : List Nat}, Lk f l → ∀ (k x y : Nat), l[k]? = some x → l[k + 1]? = some y → (f x).af = y
  | [], _, k, x, y, h, _ => by simp at h
  | [_], _, k, x, y, _, h => by simp at h
  | a :: b :: t, h, 0, x, y, h1, h2 => by
    simp at h1 h2
    subst h1 h2
    exact h.1
  | a :: b :: t, h, k + 1, x, y, h1, h2 => h.2.2.get k x y (by simpa using h1) (by simpa using h2)
/-- the k-th entry of the ring, behind the first; behind the last: the first -/
def rat (es : List Nat) (r k : Nat) : Nat := (es ++ [r]).getD k r
theorem rat_get {es : List Nat} {r k : Nat} (h : k ≤ es.length) : (es ++ [r])[k]? = some (rat es r k) := by
  unfold rat
  rw [List.getD_eq_getElem?_getD, List.getElem?_eq_getElem (by simp; omega)]
  rfl
theorem rat_lt {es : List Nat} {r k : Nat} (h : k < es.length) : rat es r k = es[k] := by
  unfold rat
  rw [List.getD_eq_getElem?_getD, List.getElem?_append_left h, List.getElem?_eq_getElem h]
  rfl
theorem rat_end {es : List Nat} {r : Nat} : rat es r es.length = r := by
  unfold rat
  rw [List.getD_eq_getElem?_getD, List.getElem?_append_right (Nat.le_refl _)]
  simp
theorem Rg.start {f : Nat → En} {r : Nat} {es : List Nat} (h : Rg f r es) : (f r).af = rat es r 0 :=
  h.2.get 0 r _ (by simp) (by rw [List.cons_append, List.getElem?_cons_succ]; exact rat_get (Nat.zero_le _))
theorem Rg.go {f : Nat → En} {r : Nat} {es : List Nat} (h : Rg f r es) {k : Nat} (hk : k < es.length) : (f (rat es r k)).af = rat es r (k + 1) :=
  h.2.get (k + 1) _ _ (by rw [List.cons_append, List.getElem?_cons_succ]; exact rat_get (by omega)) (by rw [List.cons_append, List.getElem?_cons_succ]; exact rat_get (by omega))
theorem Rg.off {f : Nat → En} {r : Nat} {es : List Nat} (h : Rg f r es) {k : Nat} (hk : k < es.length) : rat es r k ∈ es ∧ rat es r k ≠ r := by
  rw [rat_lt hk]
  exact ⟨List.getElem_mem hk, fun e => (List.nodup_cons.1 h.1).1 (by rw [← e]; exact List.getElem_mem hk)⟩
theorem newsV1c (w : World) (v : Value) (t : TypeId) {S : Nat} (hS : w.heap.size = S) : ∀ j u, [v][j]? = some u → (w.alloc (.cells #[v] t)).cell? ((⟨S, 0, none⟩ : Addr).add j) = some u := by
  subst hS
  intro j u h
  match j, h with
  | 0, h => simp at h; subst h; simp [Addr.add]

theorem info66 : (Try.prog.info? 80).map (·.size) = some 4 := by kernel_rfl
theorem neq_same (w : World) (a : Addr) : (binOp .neq 54 (.pointer (some a)) (.pointer (some a))).run Try.prog w = .ok (.bool false) w := by
  obtain ⟨j, hj, _⟩ := Option.map_eq_some_iff.1 info66
  have h : ∀ d : Nat, (Op.equalIn (d + 1) 54 (.pointer (some a)) (.pointer (some a))).run Try.prog w = .ok true w := fun d => by
    simp [Op.equalIn, run_underlying Try.underlying54, sizeOf, typeInfo, hj, run_sameAddr_same]
  simp only [binOp]
  simp [Op.equal, Op.maxDepth, h 9999]
theorem neq_other {w : World} {x y : Nat} {e e' : En} (hne : x ≠ y) (hx : EnB w x e) (hy : EnB w y e') : (binOp .neq 54 (.pointer (some ⟨x, 0, none⟩)) (.pointer (some ⟨y, 0, none⟩))).run Try.prog w = .ok (.bool true) w := by
  obtain ⟨j, hj, hs⟩ := Option.map_eq_some_iff.1 info66
  have hsz : j.size ≠ 0 := by rw [hs]; decide
  have hne' : (⟨x, 0, none⟩ : Addr) ≠ ⟨y, 0, none⟩ := fun q => hne (by injection q)
  have h : ∀ d : Nat, (Op.equalIn (d + 1) 54 (.pointer (some ⟨x, 0, none⟩)) (.pointer (some ⟨y, 0, none⟩))).run Try.prog w = .ok false w := fun d => by
    simp [Op.equalIn, run_underlying Try.underlying54, sizeOf, typeInfo, hj, hsz, run_sameAddr_other w hne' hx hy]
  simp only [binOp]
  simp [Op.equal, Op.maxDepth, h 9999]
def sLen : Value → Nat
  | .slice _ n _ => n
  | _ => 0
set_option maxRecDepth 100000 in
set_option maxHeartbeats 2000000 in
theorem Held_any {X : Nat → Prop} {w : World} {c p room : Nat} {hi mi : Int} {l : List (Int × List Int)} (h : Cst X w c p room hi mi l) (hr : room ≤ 4096) :
    Calls Try.prog 13 #[.pointer (some ⟨c, 0, none⟩)] w fun q w' => ∃ al cp, q = .returned (.tuple #[.slice al l.length cp, .int .i64 0]) ∧ OwI w.heap.size w' (.slice al l.length cp) l.length (l.map (·.1)) ∧ Below w.heap.size w w' := by
  obtain ⟨r, mp, n, es, f, Z, h1, rfl, h3, h4, h5, h6⟩ := h
  have hvl : (view es f Z).length = es.length := view_len es f Z
  have hvm : (view es f Z).map (·.1) = es.map (fun e => (f e).at_) := by unfold view; rw [List.map_map]; rfl
  rw [hvl, hvm]
  obtain ⟨D, hm, hD⟩ := h1.map
  obtain ⟨x0, x1, x2, x3, x4, x5⟩ := h1.blk.cells
  have hcl := h1.blk.lt
  have hlen := fun ty => World.ownsMap.len hm Try.underlying55 ty
  have hlend := fun ty => World.ownsMap.len (ownsMap_keep (w' := w.drew) hm rfl) Try.underlying55 ty
  rw [hD.size] at hlen hlend
  obtain ⟨i3, hi3, hz3, hs3, hb3⟩ := info_parts infoI
  have HE : Hid (∀ k, k ≤ es.length → EnB w (rat es r k) (f (rat es r k)) ∧ w.cell? ⟨rat es r k, 0, none⟩ = some (.int .i64 (f (rat es r k)).at_) ∧ w.cell? ⟨rat es r k, 3, none⟩ = some (.pointer (some ⟨(f (rat es r k)).af, 0, none⟩))) := fun k hk => by
    have hmem : rat es r k ∈ r :: es := by
      by_cases hk2 : k < es.length
      · exact List.mem_cons_of_mem _ (h1.ring.off hk2).1
      · rw [show k = es.length by omega, rat_end]; simp
    exact ⟨h1.ens _ hmem, (h1.ens _ hmem).cells.1, (h1.ens _ hmem).cells.2.2.2⟩
  have HR := hid h1.ring
  have r3 := (h1.ens r (by simp)).cells.2.2.2
  rw [h1.ring.start] at r3
  have HEr := hid (h1.ens r (by simp))
  have hrl := (h1.ens r (by simp)).lt
  clear h1 hm hD hvl hvm h6
  obtain ⟨w1, hmk, ho1, hg1⟩ := run_make_own (P := Try.prog) w w.heap.size 43 3 i3 (.int .i64 0) 1 Try.underlying43 hi3 hz3 hs3 .i64 .i64 es.length (by rw [hb3]; omega) (by unfold maxLen; omega) (Nat.le_refl _)
  have b1 : Below w.heap.size w w1 := ⟨hg1.os, hg1.tape, hg1.output, hg1.size, fun k hk => hg1.block k hk (by simp)⟩
  have y2 := (b1.cell (p := ⟨c, 2, none⟩) hcl).trans x2
  have t3 := (b1.cell (p := ⟨r, 3, none⟩) hrl).trans r3
  have H1 := hid (And.intro ho1 b1)
  clear ho1 hg1 b1
  go_enter Try.func13, Try.ntmps13
  go_wp2_with fail
  clear y2 t3 hmk hlen hlend x3
  go_loopw [4, 5] (fun v q wt => ∃ k : Nat, k ≤ es.length ∧ q = .pointer (some ⟨rat es r k, 0, none⟩) ∧ OwI w.heap.size wt v k ((es.map (fun e => (f e).at_)).take k) ∧ Below w.heap.size w wt) (fun v _ _ => es.length - sLen v)
  case atStart => exact ⟨0, Nat.zero_le _, rfl, H1.out.1, H1.out.2⟩
  case round =>
    clear H1
    obtain ⟨k, hk, rfl, hO, hbt⟩ := hrel
    have z2 := (hbt.cell (p := ⟨c, 2, none⟩) hcl).trans x2
    obtain ⟨aO, cO, rfl, _⟩ := owns_slice hO
    by_cases hkn : k < es.length
    · obtain ⟨heb, e0, e3⟩ := HE.out k hk
      have hel := heb.lt
      have hqq := neq_other (HR.out.off hkn).2 ((hbt.block _ hel).trans heb) ((hbt.block r hrl).trans HEr.out)
      clear heb
      have c0 := (hbt.cell (p := ⟨rat es r k, 0, none⟩) hel).trans e0
      rw [HR.out.go hkn] at e3
      have hne := (HR.out.off hkn).2
      have hst : (es.map (fun e => (f e).at_)).take (k + 1) = (es.map (fun e => (f e).at_)).take k ++ [(f (rat es r k)).at_] := by
        rw [List.take_succ_eq_append_getElem (by simpa using hkn), rat_lt hkn]
        simp
      generalize (f (rat es r k)).at_ = x at *
      have HOa := hid (hO.alloc (.cells #[.int .i64 x] 3))
      have Hst := hid hst
      have Hbt := hid hbt
      have hws : w.heap.size ≤ wr.heap.size := hbt.size
      have HX := hid (And.intro hel e3)
      generalize rat es r k = y at *
      clear hst hO hbt e0 e3
      go_wp2_with (at_builtin; refine wpList_append_lies _ rfl _ _ 43 (by rfl) w.heap.size 3 i3 (.int .i64 0) 1 8 Try.underlying43 hi3 hz3 hs3 hb3 rfl (by decide) _ k (((es.map (fun e => (f e).at_)).take k).map (Value.int .i64)) (by rfl) HOa.out ⟨wr.heap.size, 0, none⟩ 1 1 [.int .i64 x] (by rfl) (by rfl) (by exact newsV1c _ _ _ rfl) (by intro u hu; simp at hu; subst hu; rfl) (by decide) (by unfold maxLen; omega) (by omega) (by simp; omega) (wr.heap.size + 1) (by simp) ?_)
      intro g4 cap4 w6 ho4 hg4 hlie4 _
      have HO4 := hid ho4
      have hb4 := (Hbt.out.alloc hws (.cells #[.int .i64 x] 3)).grown hg4 (by simp; omega) (fun x e => (World.ownsRow.lt HOa.out x e).1)
      have d3 := (hb4.cell (p := ⟨y, 3, none⟩) HX.out.1).trans HX.out.2
      have HB4 := hid hb4
      clear ho4 hg4 hlie4 c0 hb4 z2
      go_wp2_with fail
      go_roundw
      case rel => exact ⟨k + 1, by omega, rfl, by rw [Hst.out]; unfold OwI; rw [List.map_append, List.map_take, List.map_map]; exact HO4.out, HB4.out⟩
      case measure => simp [sLen]; omega
    · obtain rfl : k = es.length := by omega
      have Hbt := hid hbt
      have HO := hid hO
      have hqq := neq_same wr ⟨r, 0, none⟩
      rw [rat_end] at *
      clear hO hbt
      go_wp2
      go_ret2
      refine ⟨aO, cO, rfl, ?_, Hbt.out⟩
      have := HO.out
      rw [List.take_of_length_le (by simp)] at this
      exact this

end Go.Proofs.Ytfadnmdmohabmaa
