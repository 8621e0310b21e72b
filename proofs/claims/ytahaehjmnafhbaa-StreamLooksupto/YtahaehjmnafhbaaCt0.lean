/-
  stream: what stands between a stream's first bytes and its sum: the walk.
-/
import Derived.Test.YtahaehjmnafhbaaSr2
import Derived.Deep.AppendLies
namespace Go.Proofs.Ytahaehjmnafhbaa
open Go.RowKit

/-- five cells of a block written -/
def set5 (w : World) (r : Nat) (a b c d e : Value) : World := ((((w.setCell ⟨r, 0, none⟩ a).setCell ⟨r, 1, none⟩ b).setCell ⟨r, 2, none⟩ c).setCell ⟨r, 3, none⟩ d).setCell ⟨r, 4, none⟩ e
theorem set5_heap {w : World} {r : Nat} {a0 b0 c0 d0 e0 : Value} {t : TypeId} (h : w.heap[r]? = some (.cells #[a0, b0, c0, d0, e0] t (0, 0))) (a b c d e : Value) : (set5 w r a b c d e).heap[r]? = some (.cells #[a, b, c, d, e] t (0, 0)) := by
  unfold set5
  simp only [World.setCell, Array.getElem?_modify]
  rw [h]
  simp
theorem set5_but (w : World) (r : Nat) (a b c d e : Value) : But (fun x => x = r) w (set5 w r a b c d e) :=
  (((((But.refl (fun x => x = r) w).setCell (p := ⟨r, 0, none⟩) rfl _).setCell (p := ⟨r, 1, none⟩) rfl _).setCell (p := ⟨r, 2, none⟩) rfl _).setCell (p := ⟨r, 3, none⟩) rfl _).setCell (p := ⟨r, 4, none⟩) rfl _
/-- a block that holds no content -/
structure Zb (w : World) (r : Nat) : Prop where
  c0 : w.cell? ⟨r, 0, none⟩ = some (.string ⟨#[]⟩)
  c1 : w.cell? ⟨r, 1, none⟩ = some (.int .i64 0)
  c2 : w.cell? ⟨r, 2, none⟩ = some (.string ⟨#[]⟩)
  c3 : w.cell? ⟨r, 3, none⟩ = some (.int .u32 0)
  c4 : w.cell? ⟨r, 4, none⟩ = some (.slice none 0 0)
  fz : ∀ t, w.frozen? ⟨r, t, none⟩ = false
theorem Zb.of {w : World} {r : Nat} (h : w.heap[r]? = some (.cells #[.string ⟨#[]⟩, .int .i64 0, .string ⟨#[]⟩, .int .u32 0, .slice none 0 0] 39 (0, 0))) : Zb w r :=
  ⟨by simp [World.cell?, h], by simp [World.cell?, h], by simp [World.cell?, h], by simp [World.cell?, h], by simp [World.cell?, h], fun t => by simp [World.frozen?, h]⟩
theorem results_row_tmp {P : Program} {fn : Func} {p u : Tmp} {ty : TypeId} (h : fn.results = #[.cell p ty, .tmp u]) (tmps : Array Value) (w : World) (g : Nat) (t : TypeId) (cs : Array Value) (fr : Nat × Nat) (d : TypeDesc) (x : Value)
    (hp : tmps.getD p undef = .pointer (some ⟨g, 0, none⟩)) (hx : tmps.getD u undef = x) (hg : w.heap[g]? = some (.cells cs t fr))
    (hu : P.underlying ty = some d) (hd : (match d with | .struct _ | .array _ _ => true | _ => false) = true) (hi : (P.info? ty).map (·.size) = some cs.size) :
    (results fn tmps).run P w = .ok (.tuple #[.agg cs, x]) w := by
  rw [results_cell_tmp h, hp, hx]
  simp [asAddr, run_loadVar_row w g t ty cs fr d hg hu hd hi]
theorem news1 (w : World) (u : Value) (t : TypeId) : ∀ j y, [u][j]? = some y → (w.alloc (.cells #[u] t)).cell? ((⟨w.heap.size, 0, none⟩ : Addr).add j) = some y := by
  intro j y hy
  match j, hy with
  | 0, hy =>
    have : u = y := by simpa using hy
    subst this
    rw [Addr.add_lit]
    exact cell_new rfl 0 _ rfl
theorem info58 : (Try.prog.info? 58).map (fun i => (i.zero, i.size, i.bytes)) = some (some .nilIface, 1, 16) := by kernel_rfl

set_option maxRecDepth 100000 in
set_option maxHeartbeats 4000000 in
theorem content_walk (a : Option Addr) (n c : Nat) (S1 S2 : ByteArray) (sz sm : Int) (cn B : Nat) (sh hm : Bool) (w : World) (PO : Ending → World → Prop) (hsm : IntKind.u32.wrap sm = sm) (hcn : cn < 4294967296)
    (HN : Hid (∃ wA wB kk r0, wA = w.alloc (.cells #[.string ⟨#[]⟩, .int .i64 0, .string ⟨#[]⟩, .int .u32 0, .slice none 0 0] 39) ∧ wB = wA.alloc (.cells #[.slice a n c, .bool false] 73) ∧ kk = w.heap.size + 1 ∧ r0 = w.heap.size ∧
      Calls Try.prog 26 #[.pointer (some ⟨kk, 0, none⟩)] wB fun e w1 => e = .returned (.string S1) ∧ Calls Try.prog 27 #[.pointer (some ⟨kk, 0, none⟩), .int .i64 4] w1 fun e w2 => e = .returned (.int .i64 sz) ∧
      Calls Try.prog 26 #[.pointer (some ⟨kk, 0, none⟩)] w2 fun e w3 => e = .returned (.string S2) ∧ Calls Try.prog 27 #[.pointer (some ⟨kk, 0, none⟩), .int .i64 4] w3 fun e w4 => e = .returned (.int .i64 sm) ∧
      ∃ w5 cb, w5 = w4.alloc (.cells #[.string S1, .int .i64 sz, .string S2, .int .u32 sm, .slice none 0 0] 39) ∧ cb = w4.heap.size ∧ Calls Try.prog 27 #[.pointer (some ⟨kk, 0, none⟩), .int .i64 4] w5 fun e w6 => e = .returned (.int .i64 (cn : Int)) ∧
      w6.cell? ⟨kk, 1, none⟩ = some (.bool sh) ∧ (w6.cell? ⟨cb, 0, none⟩ = some (.string S1) ∧ w6.cell? ⟨cb, 1, none⟩ = some (.int .i64 sz) ∧ w6.cell? ⟨cb, 2, none⟩ = some (.string S2) ∧ w6.cell? ⟨cb, 3, none⟩ = some (.int .u32 sm) ∧ w6.cell? ⟨cb, 4, none⟩ = some (.slice none 0 0)) ∧ w6.heap[r0]? = some (.cells #[.string ⟨#[]⟩, .int .i64 0, .string ⟨#[]⟩, .int .u32 0, .slice none 0 0] 39 (0, 0)) ∧ (sh = true → PO (.returned (.tuple #[.agg #[.string ⟨#[]⟩, .int .i64 0, .string ⟨#[]⟩, .int .u32 0, .slice none 0 0], .bool false])) (set5 w6 r0 (.string ⟨#[]⟩) (.int .i64 0) (.string ⟨#[]⟩) (.int .u32 0) (.slice none 0 0))) ∧ (sh = false → Calls Try.prog 28 #[.agg #[.string S1, .int .i64 sz, .string S2, .int .u32 sm, .slice none 0 0]] w6 fun e w7 => e = .returned (.bool hm) ∧ w7.heap[r0]? = some (.cells #[.string ⟨#[]⟩, .int .i64 0, .string ⟨#[]⟩, .int .u32 0, .slice none 0 0] 39 (0, 0)) ∧ (hm = false → PO (.returned (.tuple #[.agg #[.string ⟨#[]⟩, .int .i64 0, .string ⟨#[]⟩, .int .u32 0, .slice none 0 0], .bool false])) (set5 w7 r0 (.string ⟨#[]⟩) (.int .i64 0) (.string ⟨#[]⟩) (.int .u32 0) (.slice none 0 0))) ∧
        (hm = true → ∃ w8 ed, w8 = w7.alloc (.cells #[.int .i64 0, .int .i64 0] 76) ∧ ed = w7.heap.size ∧ ∃ LI : Nat → World → Prop, LI 0 w8 ∧ (∀ q wt, q < cn → LI q wt → ∃ rv, (wt.cell? ⟨cb, 0, none⟩ = some (.string S1) ∧ wt.cell? ⟨cb, 1, none⟩ = some (.int .i64 sz) ∧ wt.cell? ⟨cb, 2, none⟩ = some (.string S2) ∧ wt.cell? ⟨cb, 3, none⟩ = some (.int .u32 sm) ∧ wt.cell? ⟨cb, 4, none⟩ = some rv) ∧ Calls Try.prog 29 #[.pointer (some ⟨kk, 0, none⟩), .agg #[.string S1, .int .i64 sz, .string S2, .int .u32 sm, rv], .pointer (some ⟨ed, 0, none⟩)] wt fun e w9 => ∃ rv9 ok, e = .returned (.tuple #[rv9, .bool ok]) ∧ (ok = false → w9.heap[r0]? = some (.cells #[.string ⟨#[]⟩, .int .i64 0, .string ⟨#[]⟩, .int .u32 0, .slice none 0 0] 39 (0, 0)) ∧ PO (.returned (.tuple #[.agg #[.string ⟨#[]⟩, .int .i64 0, .string ⟨#[]⟩, .int .u32 0, .slice none 0 0], .bool false])) (set5 w9 r0 (.string ⟨#[]⟩) (.int .i64 0) (.string ⟨#[]⟩) (.int .u32 0) (.slice none 0 0))) ∧ (ok = true → B ≤ w9.heap.size ∧ ∃ vals w10 T9 x9, rv9 = .iface T9 x9 ∧ w10 = w9.alloc (.cells #[rv9] 58) ∧ w9.cell? ⟨cb, 4, none⟩ = some rv ∧ w10.ownsRow B 58 1 rv q vals ∧ ∀ w11 g cap, w11.ownsRow B 58 1 (.slice (some ⟨g, 0, none⟩) (q + 1) cap) (q + 1) (vals ++ [rv9]) → w10.grownBy w11 (Value.ownBlock rv) → (Value.ownBlock rv = some g ∨ g = w9.heap.size + 1) → w11.cell? ⟨cb, 4, none⟩ = some rv ∧ w11.frozen? ⟨cb, 4, none⟩ = false ∧ LI (q + 1) (w11.setCell ⟨cb, 4, none⟩ (.slice (some ⟨g, 0, none⟩) (q + 1) cap)))) ∧ (∀ wt, LI cn wt → ∃ ra rc a9 n9 c9, (wt.cell? ⟨cb, 0, none⟩ = some (.string S1) ∧ wt.cell? ⟨cb, 1, none⟩ = some (.int .i64 sz) ∧ wt.cell? ⟨cb, 2, none⟩ = some (.string S2) ∧ wt.cell? ⟨cb, 3, none⟩ = some (.int .u32 sm) ∧ wt.cell? ⟨cb, 4, none⟩ = some (.slice ra cn rc)) ∧ wt.cell? ⟨kk, 0, none⟩ = some (.slice a9 n9 c9) ∧ (∀ u, But (fun x => x = r0) wt u → (u.cell? ⟨cb, 0, none⟩ = some (.string S1) ∧ u.cell? ⟨cb, 1, none⟩ = some (.int .i64 sz) ∧ u.cell? ⟨cb, 2, none⟩ = some (.string S2) ∧ u.cell? ⟨cb, 3, none⟩ = some (.int .u32 sm) ∧ u.cell? ⟨cb, 4, none⟩ = some (.slice ra cn rc)) ∧ u.cell? ⟨kk, 0, none⟩ = some (.slice a9 n9 c9)) ∧ wt.heap[r0]? = some (.cells #[.string ⟨#[]⟩, .int .i64 0, .string ⟨#[]⟩, .int .u32 0, .slice none 0 0] 39 (0, 0)) ∧ PO (.returned (.tuple #[.agg #[.string S1, .int .i64 sz, .string S2, .int .u32 sm, .slice ra cn rc], .bool (decide (n9 = 0))])) (set5 wt r0 (.string S1) (.int .i64 sz) (.string S2) (.int .u32 sm) (.slice ra cn rc)).drew))))) :
    Calls Try.prog 18 #[.slice a n c] w PO := by
  obtain ⟨wA, wB, kk, r0, hwA, hwB, hkk, hr0, h1⟩ := HN
  have HA := hid hwA
  have HB := hid hwB
  have HK := hid hkk
  have HR := hid hr0
  have H1 := hid h1
  clear hwA hwB hkk h1 hr0
  have e1 : (w.alloc (.cells #[.string ⟨#[]⟩, .int .i64 0, .string ⟨#[]⟩, .int .u32 0, .slice none 0 0] 39)).heap.size = w.heap.size + 1 := by simp
  go_enter Try.func18, Try.ntmps18
  go_wp2_with fail
  rw [← HA.out, ← HB.out, ← HK.out, ← HR.out]
  clear HA HB HK HR e1
  refine Calls.mono H1.out ?_
  rintro e w1 ⟨rfl, h2⟩
  have H2 := hid h2
  clear h2 H1
  go_wp2_with fail
  refine Calls.mono H2.out ?_
  rintro e w2 ⟨rfl, h3⟩
  have H3 := hid h3
  clear h3 H2
  go_wp2_with fail
  refine Calls.mono H3.out ?_
  rintro e w3 ⟨rfl, h4⟩
  have H4 := hid h4
  clear h4 H3
  go_wp2_with fail
  refine Calls.mono H4.out ?_
  rintro e w4 ⟨rfl, w5, cb, hw5, hcb, h5⟩
  have H5 := hid h5
  have HW5 := hid hw5
  have HCB := hid hcb
  clear h5 hw5 hcb H4
  go_wp2_with fail
  rw [← HW5.out, ← HCB.out]
  clear HW5 HCB
  refine Calls.mono H5.out ?_
  rintro e w6 ⟨rfl, k1, ⟨c0, c1, c2, c3, c4⟩, hz, hf, ht⟩
  have HZ := hid hz
  have HF := hid hf
  have HT := hid ht
  have y0 := (Zb.of hz).c0
  have y1 := (Zb.of hz).c1
  have y2 := (Zb.of hz).c2
  have y3 := (Zb.of hz).c3
  have y4 := (Zb.of hz).c4
  have yf := (Zb.of hz).fz
  clear hz hf ht H5
  cases sh
  case true =>
    have FN := hid (HF.out rfl)
    have FH := hid (set5_heap HZ.out (.string ⟨#[]⟩) (.int .i64 0) (.string ⟨#[]⟩) (.int .u32 0) (.slice none 0 0))
    clear HF HT
    go_wp2_with fail
    exact bodyPost_ret (results_row_tmp rfl _ _ r0 39 #[.string ⟨#[]⟩, .int .i64 0, .string ⟨#[]⟩, .int .u32 0, .slice none 0 0] (0, 0) _ (.bool false) rfl rfl FH.out Try.underlying39 rfl (by kernel_rfl)) rfl FN.out
  case false =>
  have H28 := hid (HT.out rfl)
  clear HF HT HZ y0 y1 y2 y3 y4 yf
  go_wp2_with fail
  refine Calls.mono H28.out ?_
  rintro e w7 ⟨rfl, hz, hf, ht⟩
  have HZ := hid hz
  have HF := hid hf
  have HT := hid ht
  have y0 := (Zb.of hz).c0
  have y1 := (Zb.of hz).c1
  have y2 := (Zb.of hz).c2
  have y3 := (Zb.of hz).c3
  have y4 := (Zb.of hz).c4
  have yf := (Zb.of hz).fz
  clear hz hf ht H28 k1 c0 c1 c2 c3 c4
  cases hm
  case false =>
    have FN := hid (HF.out rfl)
    have FH := hid (set5_heap HZ.out (.string ⟨#[]⟩) (.int .i64 0) (.string ⟨#[]⟩) (.int .u32 0) (.slice none 0 0))
    clear HF HT
    go_wp2_with fail
    exact bodyPost_ret (results_row_tmp rfl _ _ r0 39 #[.string ⟨#[]⟩, .int .i64 0, .string ⟨#[]⟩, .int .u32 0, .slice none 0 0] (0, 0) _ (.bool false) rfl rfl FH.out Try.underlying39 rfl (by kernel_rfl)) rfl FN.out
  case true =>
  obtain ⟨w8, ed, hw8, hed, LI, hL0, hLI, hLE⟩ := HT.out rfl
  have HW8 := hid hw8
  have HED := hid hed
  have HL0 := hid hL0
  have HLI := hid hLI
  have HLE := hid hLE
  clear hw8 hed hL0 hLI hLE HF HT HZ y0 y1 y2 y3 y4 yf
  go_wp2_with fail
  rw [← HW8.out, ← HED.out]
  clear HW8 HED
  obtain ⟨i58, hi9, hz9, hs9, hb9⟩ := info_parts info58
  go_loopw [37] (fun iv wt => ∃ q : Nat, q ≤ cn ∧ iv = .int .i64 (q : Int) ∧ LI q wt) (fun iv _ => cn - (intOf iv).toNat)
  case atStart => exact ⟨0, Nat.zero_le _, rfl, HL0.out⟩
  case round =>
    clear HL0
    obtain ⟨q, hq, rfl, hL⟩ := hrel
    by_cases hqn : q < cn
    · have hqn' : (q : Int) < (cn : Int) := by omega
      obtain ⟨rv, ⟨c0, c1, c2, c3, c4⟩, h29⟩ := HLI.out q wr hqn hL
      have H29 := hid h29
      clear h29 hL
      go_wp2_with fail
      refine Calls.mono H29.out ?_
      rintro e w9 ⟨rv9, ok, rfl, hno, hyes⟩
      have HNO := hid hno
      have HYES := hid hyes
      clear hno hyes H29 c0 c1 c2 c3 c4
      cases ok
      case false =>
        obtain ⟨hz, hf⟩ := HNO.out rfl
        have FN := hid hf
        have FH := hid (set5_heap hz (.string ⟨#[]⟩) (.int .i64 0) (.string ⟨#[]⟩) (.int .u32 0) (.slice none 0 0))
        have y0 := (Zb.of hz).c0
        have y1 := (Zb.of hz).c1
        have y2 := (Zb.of hz).c2
        have y3 := (Zb.of hz).c3
        have y4 := (Zb.of hz).c4
        have yf := (Zb.of hz).fz
        clear HNO HYES hz hf
        go_wp2_with fail
        exact bodyPost_ret (results_row_tmp rfl _ _ r0 39 #[.string ⟨#[]⟩, .int .i64 0, .string ⟨#[]⟩, .int .u32 0, .slice none 0 0] (0, 0) _ (.bool false) rfl rfl FH.out Try.underlying39 rfl (by kernel_rfl)) rfl FN.out
      case true =>
        obtain ⟨hBs, vals, w10, T9, x9, rfl, hw10, x4, hrow, hnx⟩ := HYES.out rfl
        have HW10 := hid hw10
        have HROW := hid hrow
        have HNX := hid hnx
        have HBS := hid hBs
        clear HNO HYES hw10 hrow hnx hBs
        rw [HW10.out] at HROW
        go_wp2_with (at_builtin; go_loud (refine wpList_append_lies _ rfl _ _ _ rfl B 58 i58 .nilIface 1 16 Try.underlying37 hi9 hz9 hs9 hb9 rfl (by decide) _ q _ rfl (by exact HROW.out) ⟨w9.heap.size, 0, none⟩ 1 1 [.iface T9 x9] rfl rfl (by exact news1 w9 _ _) (by intro u hu; simp at hu; subst hu; rfl) (by decide) (by unfold maxLen; omega) (by omega) (by have := HBS.out; simp; omega) (w9.heap.size + 1) (by simp) ?_; intro g4 cap4 w11 ho4 hg4 hlie4 _; obtain ⟨y2, yf, hF⟩ := HNX.out w11 g4 cap4 ho4 (by rw [HW10.out]; exact hg4) hlie4; have HF := hid hF; clear ho4 hg4 hlie4 hF HNX HROW x4))
        go_roundw
        case rel => exact ⟨q + 1, by omega, by go_num, HF.out⟩
        case measure => simp [intOf]; omega
    · have hqe : q = cn := by omega
      have hqn' : ¬ (q : Int) < (cn : Int) := by omega
      obtain ⟨ra, rc, a9, n9, c9, hC, k0, hks, hz, hP⟩ := HLE.out wr (by rw [← hqe]; exact hL)
      have HKS := hid hks
      have h90 : ((n9 : Int) == 0) = decide (n9 = 0) := by by_cases z : n9 = 0 <;> simp [z]
      have FN := hid hP
      have hz' : wr.heap[r0]? = some (.cells #[.string ⟨#[]⟩, .int .i64 0, .string ⟨#[]⟩, .int .u32 0, .slice none 0 0] 39 (0, 0)) := hz
      have FH := hid (show (set5 wr r0 (.string S1) (.int .i64 sz) (.string S2) (.int .u32 sm) (.slice ra cn rc)).drew.heap[r0]? = some (.cells #[.string S1, .int .i64 sz, .string S2, .int .u32 sm, .slice ra cn rc] 39 (0, 0)) from set5_heap hz' (.string S1) (.int .i64 sz) (.string S2) (.int .u32 sm) (.slice ra cn rc))
      have y0 := (Zb.of hz').c0
      have y1 := (Zb.of hz').c1
      have y2 := (Zb.of hz').c2
      have y3 := (Zb.of hz').c3
      have y4 := (Zb.of hz').c4
      have yf := (Zb.of hz').fz
      have kS := And.intro hC k0
      clear hC k0 hP hz hz' hL HLI HLE hks
      go_wp2_with fail
      refine wp_region_held_drew (S := fun w' => (w'.cell? ⟨cb, 0, none⟩ = some (.string S1) ∧ w'.cell? ⟨cb, 1, none⟩ = some (.int .i64 sz) ∧ w'.cell? ⟨cb, 2, none⟩ = some (.string S2) ∧ w'.cell? ⟨cb, 3, none⟩ = some (.int .u32 sm) ∧ w'.cell? ⟨cb, 4, none⟩ = some (.slice ra cn rc)) ∧ w'.cell? ⟨kk, 0, none⟩ = some (.slice a9 n9 c9)) (by kernel_rfl) kS (fun hSS => ?_)
      refine wpAnyH_take (i := 0) (oi := ({ dst := some 55, op := Op.load 39 (Operand.tmp 5), type := 39, pos := _, after := _, guard := none } : Oper)) (v := ?_) rfl (by kernel_rfl) (by kernel_rfl) (by kernel_rfl) (fun _ _ _ h => h) (Or.inl ⟨by rfl, ?_⟩) hSS ?_
      rotate_left
      · intro w9 hSw
        (try dsimp only at hSw)
        (try go_split_ands)
        first | (go_simp; done) | (go_simp; with_reducible rfl)
      try simp only [Act.put, List.setIfInBounds_toArray, List.set_cons_zero, List.set_cons_succ]
      refine wpAnyH_take (i := 1) (oi := ({ dst := some 56, op := Op.move (Operand.tmp 4), type := 71, pos := _, after := _, guard := none } : Oper)) (v := ?_) rfl (by kernel_rfl) (by kernel_rfl) (by kernel_rfl) (fun _ _ _ h => h) (Or.inl ⟨by rfl, ?_⟩) hSS ?_
      rotate_left
      · intro w9 hSw
        (try dsimp only at hSw)
        (try go_split_ands)
        first | (go_simp; done) | (go_simp; with_reducible rfl)
      try simp only [Act.put, List.setIfInBounds_toArray, List.set_cons_zero, List.set_cons_succ]
      refine wpAnyH_take (i := 2) (oi := ({ dst := some 57, op := Op.nilCheck (Operand.tmp 56), type := 0, pos := _, after := _, guard := none } : Oper)) (v := ?_) rfl (by kernel_rfl) (by kernel_rfl) (by kernel_rfl) (fun _ _ _ h => h) (Or.inl ⟨by rfl, ?_⟩) hSS ?_
      rotate_left
      · intro w9 hSw
        (try dsimp only at hSw)
        (try go_split_ands)
        first | (go_simp; done) | (go_simp; with_reducible rfl)
      try simp only [Act.put, List.setIfInBounds_toArray, List.set_cons_zero, List.set_cons_succ]
      refine wpAnyH_take (i := 3) (oi := ({ dst := some 58, op := Op.fieldAddr 73 (Operand.tmp 57) 0, type := 0, pos := _, after := _, guard := none } : Oper)) (v := ?_) rfl (by kernel_rfl) (by kernel_rfl) (by kernel_rfl) (fun _ _ _ h => h) (Or.inl ⟨by rfl, ?_⟩) hSS ?_
      rotate_left
      · intro w9 hSw
        (try dsimp only at hSw)
        (try go_split_ands)
        first | (go_simp; done) | (go_simp; with_reducible rfl)
      try simp only [Act.put, List.setIfInBounds_toArray, List.set_cons_zero, List.set_cons_succ]
      refine wpAnyH_take (i := 4) (oi := ({ dst := some 59, op := Op.load 22 (Operand.tmp 58), type := 22, pos := _, after := _, guard := none } : Oper)) (v := ?_) rfl (by kernel_rfl) (by kernel_rfl) (by kernel_rfl) (fun _ _ _ h => h) (Or.inl ⟨by rfl, ?_⟩) hSS ?_
      rotate_left
      · intro w9 hSw
        (try dsimp only at hSw)
        (try go_split_ands)
        first | (go_simp; done) | (go_simp; with_reducible rfl)
      try simp only [Act.put, List.setIfInBounds_toArray, List.set_cons_zero, List.set_cons_succ]
      refine wpAnyH_take (i := 5) (oi := ({ dst := some 60, op := Op.call { callee := Callee.builtin Builtin.len, args := #[Operand.tmp 59], argTypes := #[22] }, type := 3, pos := _, after := _, guard := none } : Oper)) (v := ?_) rfl (by kernel_rfl) (by kernel_rfl) (by kernel_rfl) (fun _ _ _ h => h) (Or.inl ⟨by rfl, ?_⟩) hSS ?_
      rotate_left
      · intro w9 hSw
        (try dsimp only at hSw)
        (try go_split_ands)
        first | (go_simp; done) | (go_simp; with_reducible rfl)
      try simp only [Act.put, List.setIfInBounds_toArray, List.set_cons_zero, List.set_cons_succ]
      refine wpAnyH_take (i := 6) (oi := ({ dst := some 61, op := Op.binOp BinOp.eql 3 (Operand.tmp 60) (Operand.const (Value.int IntKind.i64 0)) 3, type := 4, pos := _, after := _, guard := none } : Oper)) (v := .bool (decide (n9 = 0))) rfl (by kernel_rfl) (by kernel_rfl) (by kernel_rfl) (fun _ _ _ h => h) (Or.inl ⟨by rfl, ?_⟩) hSS ?_
      · intro w9 hSw
        (try dsimp only at hSw)
        (try go_split_ands)
        first | (go_simp; done) | (go_simp; simp [h90]; done)
      try simp only [Act.put, List.setIfInBounds_toArray, List.set_cons_zero, List.set_cons_succ]
      refine wpAnyH_ready (rs := [7]) (by kernel_rfl) (by simp) (AllReadyH.cons (o := ({ dst := none, op := Op.store 39 (Operand.tmp 2) (Operand.tmp 55), type := 0, pos := _, after := _, guard := none } : Oper)) rfl (fun K9 hK9 => ?_) AllReadyH.nil)
      go_simp
      refine hK9.out _ _ (HKS.out _ ((set5_but wr r0 (.string S1) (.int .i64 sz) (.string S2) (.int .u32 sm) (.slice ra cn rc)).drew)) (fun hSS => ?_)
      clear hK9 K9
      try simp only [Act.put, List.setIfInBounds_toArray, List.set_cons_zero, List.set_cons_succ]
      refine wpAnyH_take (i := 8) (oi := ({ dst := some 3, op := Op.assign (Operand.tmp 61), type := 4, pos := _, after := _, guard := none } : Oper)) (v := ?_) rfl (by kernel_rfl) (by kernel_rfl) (by kernel_rfl) (fun _ _ _ h => h) (Or.inl ⟨by rfl, ?_⟩) hSS ?_
      rotate_left
      · intro w9 hSw
        (try dsimp only at hSw)
        (try go_split_ands)
        first | (go_simp; done) | (go_simp; with_reducible rfl)
      try simp only [Act.put, List.setIfInBounds_toArray, List.set_cons_zero, List.set_cons_succ]
      refine wpAnyH_done (by kernel_rfl) ?_ _
      clear hSS kS
      go_wp2_with fail
      exact bodyPost_ret (results_row_tmp rfl _ _ r0 39 #[.string S1, .int .i64 sz, .string S2, .int .u32 sm, .slice ra cn rc] (0, 0) _ (.bool (decide (n9 = 0))) rfl rfl FH.out Try.underlying39 rfl (by kernel_rfl)) rfl FN.out

end Go.Proofs.Ytahaehjmnafhbaa
