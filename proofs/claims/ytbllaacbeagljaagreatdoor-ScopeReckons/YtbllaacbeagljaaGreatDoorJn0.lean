/-
  lex: joined, Untoken.
-/
import Derived.Test.YtbllaacbeagljaaGreatDoorLb0
import Derived.Test.YtbllaacbeagljaaGreatDoorLg0
namespace Go.Proofs.YtbllaacbeagljaaGreatDoor
open Go.RowKit

theorem OwT.some {B : Nat} {w : World} {ua : Option Addr} {m uc : Nat} {ts : List Tk} (h : OwT B w (.slice ua m uc) ts) (h0 : 0 < ts.length) : ∃ g, ua = Option.some ⟨g, 0, none⟩ ∧ B ≤ g ∧ g < w.heap.size := by
  have h' := h
  rcases h.2 with ⟨e, q⟩ | ⟨g, cap, cur, e, hb, hh, _⟩
  · omega
  · simp at e
    obtain ⟨rfl, rfl, rfl⟩ := e
    exact ⟨g, rfl, hb, (Array.getElem?_eq_some_iff.1 hh).1⟩
theorem OwT.cell4 {B : Nat} {w : World} {g m uc : Nat} {ts : List Tk} (h : OwT B w (.slice (Option.some ⟨g, 0, none⟩) m uc) ts) (hm : m = ts.length) (j : Nat) (hj : j < ts.length) : w.cell? ⟨g, j * 4, none⟩ = Option.some (.int .i64 ts[j].k) ∧ w.cell? ⟨g, j * 4 + 1, none⟩ = Option.some (.string (strOfNums ts[j].tx)) ∧ w.cell? ⟨g, j * 4 + 2, none⟩ = Option.some (.int .i64 ts[j].n) ∧ w.cell? ⟨g, j * 4 + 3, none⟩ = Option.some (.int .i64 ts[j].a) := by
  subst hm
  have hl := flatT_len ts
  have k : ∀ i, i < 4 → ∀ v, (cellsT ts[j])[i]? = Option.some v → w.cell? ⟨g, j * 4 + i, none⟩ = Option.some v := fun i hi v hv => by
    have h2 := World.ownsRow.cellAt h (j * 4 + i) (by omega)
    rw [h2]
    exact (flatT_at ts j hj i hi).trans hv
  exact ⟨k 0 (by decide) _ rfl, k 1 (by decide) _ rfl, k 2 (by decide) _ rfl, k 3 (by decide) _ rfl⟩

/-- tokens to be read -/
def TkR (w : World) (a : Option Addr) (ts : List Tk) : Prop := ts = [] ∨ ∃ g, a = some ⟨g, 0, none⟩ ∧ g < w.heap.size ∧ ∀ j (hj : j < ts.length), w.cell? ⟨g, j * 4, none⟩ = some (.int .i64 ts[j].k) ∧ w.cell? ⟨g, j * 4 + 1, none⟩ = some (.string (strOfNums ts[j].tx)) ∧ w.cell? ⟨g, j * 4 + 2, none⟩ = some (.int .i64 ts[j].n) ∧ w.cell? ⟨g, j * 4 + 3, none⟩ = some (.int .i64 ts[j].a)
theorem TkR.next {w w' : World} {a : Option Addr} {ts : List Tk} (h : TkR w a ts) (hb : Below w.heap.size w w') : TkR w' a ts := by
  rcases h with h | ⟨g, h1, h2, h3⟩
  · exact .inl h
  · have e : ∀ o, w'.cell? ⟨g, o, none⟩ = w.cell? ⟨g, o, none⟩ := fun o => by simp only [World.cell?]; rw [hb.block g h2]
    exact .inr ⟨g, h1, by have := hb.size; omega, fun j hj => by rw [e, e, e, e]; exact h3 j hj⟩
theorem OwT.rd {B : Nat} {w : World} {ua : Option Addr} {m uc : Nat} {ts : List Tk} (h : OwT B w (.slice ua m uc) ts) (hm : m = ts.length) : TkR w ua ts := by
  by_cases h0 : 0 < ts.length
  · obtain ⟨g, rfl, _, h2⟩ := h.some h0
    exact .inr ⟨g, rfl, h2, fun j hj => h.cell4 hm j hj⟩
  · exact .inl (List.eq_nil_of_length_eq_zero (by omega))
theorem TkR.take {w : World} {a : Option Addr} {ts : List Tk} (h : TkR w a ts) (m : Nat) : TkR w a (ts.take m) := by
  rcases h with rfl | ⟨g, h1, h2, h3⟩
  · exact .inl (by simp)
  · exact .inr ⟨g, h1, h2, fun j hj => by
      have := h3 j (by simp at hj; omega)
      simpa using this⟩

def byL (l : List Int) : List UInt8 := (strOfNums l).data.toList
theorem byL_app (a b : List Int) : byL a ++ (strOfNums b).data.toList = byL (a ++ b) := by simp [byL, strOfNums]
theorem byL_32 (a : List Int) : byL a ++ [32] = byL (a ++ [32]) := by simp [byL, strOfNums]
theorem byL_len (a : List Int) : (byL a).length = a.length := by simp [byL, strOfNums]
theorem byL_str (a : List Int) : (⟨(byL a).toArray⟩ : ByteArray) = strOfNums a := by simp [byL]
theorem jnL_snoc (x : List Int) : ∀ (ls : List (List Int)), ls ≠ [] → jnL (ls ++ [x]) = jnL ls ++ 32 :: x
  | [], h => absurd rfl h
  | [l], _ => rfl
  | l :: m :: r, _ => by
    have ih := jnL_snoc x (m :: r) (by simp)
    simp only [List.cons_append] at ih ⊢
    show l ++ 32 :: jnL (m :: (r ++ [x])) = (l ++ 32 :: jnL (m :: r)) ++ 32 :: x
    rw [ih]
    simp
theorem jnL_take0 {ls : List (List Int)} (h : 0 < ls.length) : jnL (ls.take 1) = ls[0] := by
  cases ls with
  | nil => simp at h
  | cons l r => rfl
theorem jnL_take {ls : List (List Int)} {j : Nat} (h0 : 0 < j) (h : j < ls.length) : jnL (ls.take (j + 1)) = jnL (ls.take j) ++ [32] ++ ls[j] := by
  have hne : ls.take j ≠ [] := by
    intro e
    have h9 : (ls.take j).length = 0 := by rw [e]; rfl
    rw [List.length_take] at h9
    omega
  rw [List.take_succ_eq_append_getElem h, jnL_snoc _ _ hne, List.append_assoc]
  rfl
theorem jnL_mono {ls : List (List Int)} (j : Nat) : ∀ m, j + m ≤ ls.length → (jnL (ls.take j)).length ≤ (jnL (ls.take (j + m))).length
  | 0, _ => Nat.le_refl _
  | m + 1, h => by
    refine Nat.le_trans (jnL_mono j m (by omega)) ?_
    by_cases q : 0 < j + m
    · rw [← Nat.add_assoc, jnL_take q (by omega)]; simp
    · rw [show j + m = 0 by omega]; exact Nat.zero_le _
/-- what joined answers -/
def jnQ (ls : List (List Int)) : List Int × Int := if 65536 < (jnL ls).length then ([], 180) else (jnL ls, 0)
def Wr28 (w : World) (v : Value) (l : List Int) : Prop := Calls Tryz.prog 148 #[v] w fun e w' => e = .returned (.string (strOfNums l)) ∧ Below w.heap.size w w'

set_option maxRecDepth 100000 in
set_option maxHeartbeats 4000000 in
theorem joined_any (a : Option Addr) (n c : Nat) (ts : List Tk) (ls : List (List Int)) (w : World) (hn : ts.length = n) (hls : ls.length = n) (hR : TkR w a ts) (hN : n ≤ 16777216)
    (hW : ∀ j (hj : j < ts.length) (hj' : j < ls.length) w', Below w.heap.size w w' → Wr28 w' (tokV ts[j]) ls[j]) (hS : ∀ l ∈ ls, l.length ≤ 16777216) :
    Calls Tryz.prog 140 #[.slice a n c] w fun e w' => e = .returned (.tuple #[.string (strOfNums (jnQ ls).1), .int .i64 (jnQ ls).2]) ∧ Below w.heap.size w w' := by
  obtain ⟨b, hb⟩ : ∃ b, b = w.heap.size := ⟨_, rfl⟩
  have B0 : Bd b b (byL (jnL (ls.take 0))) (w.alloc (.cells #[.pointer none, .slice none 0 0] 250)) := by rw [hb]; exact Bd.fresh w
  have L0 : Below b w (w.alloc (.cells #[.pointer none, .slice none 0 0] 250)) := by rw [hb]; exact below1 _ _
  have HB0 := hid B0
  have HL0 := hid L0
  have HR := hid hR
  have HW := hid hW
  have HS := hid hS
  have Hb := hid hb
  rw [← hb]
  clear B0 L0 hR hW hS hb
  go_enter Tryz.func140, Tryz.ntmps140
  go_wp2_with fail
  rw [← Hb.out]
  go_loopw [9] (fun iv wr => ∃ j : Nat, iv = .int .i64 (j : Int) ∧ j ≤ n ∧ Bd b b (byL (jnL (ls.take j))) wr ∧ Below b w wr ∧ (jnL (ls.take j)).length ≤ 65536) (fun iv _ => n - (intOf iv).toNat)
  case atStart => exact ⟨0, rfl, Nat.zero_le _, HB0.out, HL0.out, by simp [jnL]⟩
  case round =>
    clear HB0 HL0
    have hb := Hb.out
    obtain ⟨j, rfl, hj, hBd, hBe, hle⟩ := hrel
    by_cases hjn : j < n
    · have hjt : j < ts.length := by omega
      have hjl : j < ls.length := by omega
      have hRw := HR.out
      rw [hb] at hBe
      obtain ⟨g, rfl, hg, hcs⟩ := (hRw.next hBe).resolve_left (by intro e; rw [e] at hjt; simp at hjt)
      obtain ⟨t0, t1, t2, t3⟩ := hcs j hjt
      have hw28 := HW.out j hjt hjl
      have hl28 := HS.out ls[j] (List.getElem_mem hjl)
      obtain ⟨W1, hW1⟩ : ∃ W1, W1 = wr.alloc (.cells (tcs ts[j].k (strOfNums ts[j].tx) ts[j].n ts[j].a) 227) := ⟨_, rfl⟩
      have r1 : TkB W1 wr.heap.size ts[j].k (strOfNums ts[j].tx) ts[j].n ts[j].a := by rw [hW1]; exact heap_new _ _
      have bl1 : Below wr.heap.size wr W1 := by rw [hW1]; exact below1 _ _
      have z0 := hBe.size
      have z1 := bl1.size
      have hBd1 := hBd.next bl1
      have hbe1 : Below w.heap.size w W1 := hBe.trans (bl1.mono z0)
      obtain ⟨l1, hl1⟩ : ∃ l1, l1 = jnL (ls.take (j + 1)) := ⟨_, rfl⟩
      have hstep : ∀ W2 pl, Bd b b (byL pl) W2 → Below w.heap.size w W2 → pl.length ≤ 65537 → pl ++ ls[j] = l1 → Calls Tryz.prog 148 #[tokV ts[j]] W2 fun e W3 => e = .returned (.string (strOfNums ls[j])) ∧ Calls Tryz.prog 151 #[.pointer (some ⟨b, 0, none⟩), .string (strOfNums ls[j])] W3 fun e W4 => (∃ k : Int, e = .returned (.tuple #[.int .i64 k, .nilIface])) ∧ Calls Tryz.prog 152 #[.pointer (some ⟨b, 0, none⟩)] W4 fun e W5 => e = .returned (.int .i64 (l1.length : Int)) ∧ Bd b b (byL l1) W5 ∧ Below b w W5 := by
        intro W2 pl q1 q2 q3 q4
        refine (hw28 W2 q2).mono ?_
        rintro e W3 ⟨rfl, q5⟩
        refine ⟨rfl, ?_⟩
        have z2 := q2.size
        have z3 := q5.size
        refine (WStr_any b b (byL pl) (strOfNums ls[j]) W3 (q1.next q5) (by rw [byL_len, str_size]; omega) (by omega)).mono ?_
        rintro e W4 ⟨rfl, q6, q7, _⟩
        refine ⟨⟨_, rfl⟩, ?_⟩
        rw [byL_app, q4] at q6
        refine (BLen_any b b _ W4 q6).mono ?_
        rintro e W5 ⟨rfl, rfl⟩
        refine ⟨by rw [byL_len], q6, ?_⟩
        rw [hb]
        rw [hb] at q7
        exact (q2.trans (q5.mono z2)).trans q7
      have HQ : Hid (65536 < l1.length → jnQ ls = ([], 180)) := fun q => by
        unfold jnQ
        have := jnL_mono (ls := ls) (j + 1) (ls.length - (j + 1)) (by omega)
        rw [show j + 1 + (ls.length - (j + 1)) = ls.length by omega, List.take_length, ← hl1] at this
        rw [if_pos (by omega)]
      have HW1 := hid hW1
      have hTb : b < wr.heap.size := hBd.lt
      have hlw : Hid (l1 = jnL (ls.take (j + 1))) := hl1
      have hjn' : (j : Int) < (n : Int) := by omega
      by_cases j0 : j = 0
      · subst j0
        have HST := hid (hstep W1 [] hBd1 hbe1 (by simp) (by rw [hl1, jnL_take0 hjl]; rfl))
        clear hstep hBd1 hbe1 hRw hcs hBd hBe hle r1 bl1 hW1 hw28 hl28 hl1 hb
        generalize strOfNums ls[0] = V at *
        generalize ts[0] = t at *
        obtain ⟨tk, tl, tn, ta⟩ := t
        simp only [tokV] at t0 t1 t2 t3 HW1 HST
        generalize strOfNums tl = U at *
        go_wp2_with fail
        rw [← HW1.out]
        refine Calls.mono HST.out ?_
        rintro e W3 ⟨rfl, h⟩
        have H31 := hid h
        clear h HST
        go_wp2_with fail
        refine Calls.mono H31.out ?_
        rintro e W4 ⟨⟨kk, rfl⟩, h⟩
        have H32 := hid h
        clear h H31
        go_wp2_with fail
        refine Calls.mono H32.out ?_
        rintro e W5 ⟨rfl, h1, h2⟩
        have K1 := hid h1
        have K2 := hid h2
        clear h1 h2 H32
        by_cases q : 65536 < l1.length
        · have q' : (65536 : Int) < (l1.length : Int) := by omega
          go_wp2_with fail
          go_ret2
          rw [HQ.out q]
          exact ⟨rfl, K2.out⟩
        · have q' : ¬ (65536 : Int) < (l1.length : Int) := by omega
          go_wp2_with fail
          exact ⟨⟨0 + 1, by go_num, by omega, by rw [← hlw.out]; exact K1.out, K2.out, by rw [← hlw.out]; omega⟩, by simp [intOf]; omega⟩
      · have HWB : Hid (Calls Tryz.prog 150 #[.pointer (some ⟨b, 0, none⟩), .int .u8 32] W1 fun e W2 => e = .returned .nilIface ∧ TkB W2 wr.heap.size ts[j].k (strOfNums ts[j].tx) ts[j].n ts[j].a ∧ Calls Tryz.prog 148 #[tokV ts[j]] W2 fun e W3 => e = .returned (.string (strOfNums ls[j])) ∧ Calls Tryz.prog 151 #[.pointer (some ⟨b, 0, none⟩), .string (strOfNums ls[j])] W3 fun e W4 => (∃ k : Int, e = .returned (.tuple #[.int .i64 k, .nilIface])) ∧ Calls Tryz.prog 152 #[.pointer (some ⟨b, 0, none⟩)] W4 fun e W5 => e = .returned (.int .i64 (l1.length : Int)) ∧ Bd b b (byL l1) W5 ∧ Below b w W5) := by
          refine (WByte_any b b _ 32 W1 hBd1 (by rw [byL_len]; omega) (by omega)).mono ?_
          rintro e W2 ⟨rfl, p1, p2, p3⟩
          rw [byL_32] at p1
          refine ⟨rfl, p3 _ _ r1 (by intro e; have := Option.some.inj e; omega) (fun c fz e => by simp at e), ?_⟩
          rw [hb] at p2
          exact hstep W2 _ p1 (hbe1.trans p2) (by simp; omega) (by rw [hl1, jnL_take (by omega) hjl])
        have j0' : (0 : Int) < (j : Int) := by omega
        clear hstep hBd1 hbe1 hRw hcs hBd hBe hle r1 bl1 hW1 hw28 hl28 hl1 hb
        generalize strOfNums ls[j] = V at *
        generalize ts[j] = t at *
        obtain ⟨tk, tl, tn, ta⟩ := t
        simp only [tokV] at t0 t1 t2 t3 HW1 HWB
        generalize strOfNums tl = U at *
        go_wp2_with fail
        rw [← HW1.out]
        refine Calls.mono HWB.out ?_
        rintro e W2 ⟨rfl, r2, h⟩
        have HST := hid h
        clear h HWB
        have u0 := r2.cell 0 _ rfl
        have u1 := r2.cell 1 _ rfl
        have u2 := r2.cell 2 _ rfl
        have u3 := r2.cell 3 _ rfl
        go_wp2_with fail
        refine Calls.mono HST.out ?_
        rintro e W3 ⟨rfl, h⟩
        have H31 := hid h
        clear h HST
        go_wp2_with fail
        refine Calls.mono H31.out ?_
        rintro e W4 ⟨⟨kk, rfl⟩, h⟩
        have H32 := hid h
        clear h H31
        go_wp2_with fail
        refine Calls.mono H32.out ?_
        rintro e W5 ⟨rfl, h1, h2⟩
        have K1 := hid h1
        have K2 := hid h2
        clear h1 h2 H32
        by_cases q : 65536 < l1.length
        · have q' : (65536 : Int) < (l1.length : Int) := by omega
          go_wp2_with fail
          go_ret2
          rw [HQ.out q]
          exact ⟨rfl, K2.out⟩
        · have q' : ¬ (65536 : Int) < (l1.length : Int) := by omega
          go_wp2_with fail
          exact ⟨⟨j + 1, by go_num, by omega, by rw [← hlw.out]; exact K1.out, K2.out, by rw [← hlw.out]; omega⟩, by simp [intOf]; omega⟩
    · have hjn' : ¬ (j : Int) < (n : Int) := by omega
      have hje : j = ls.length := by omega
      have HBS : Hid (Calls Tryz.prog 153 #[.pointer (some ⟨b, 0, none⟩)] wr fun e w' => e = .returned (.string (strOfNums (jnQ ls).1)) ∧ (jnQ ls).2 = 0 ∧ Below b w w') := by
        rw [hje, List.take_length] at hBd hle
        have hq : jnQ ls = (jnL ls, 0) := by unfold jnQ; rw [if_neg (by omega)]
        have z := hBd.lt
        refine (BStr_any b b _ wr hBd (by omega)).mono ?_
        rintro e w' ⟨rfl, k2⟩
        rw [hq, byL_str]
        exact ⟨rfl, rfl, hBe.trans k2⟩
      clear hBd hBe hle hje hb
      go_wp2_with fail
      refine Calls.mono HBS.out ?_
      rintro e w' ⟨rfl, k1, k2⟩
      have K1 := hid k1
      have K2 := hid k2
      clear k1 k2 HBS
      go_wp2_with fail
      go_ret2
      rw [K1.out]
      exact ⟨rfl, K2.out⟩

set_option maxRecDepth 100000 in
set_option maxHeartbeats 1000000 in
theorem Untoken_many (a : Option Addr) (n c : Nat) (w : World) (hn : 16384 < n) : Calls Tryz.prog 133 #[.slice a n c] w fun e w' => e = .returned (.tuple #[.string ⟨#[]⟩, .int .i64 184]) ∧ w' = w := by
  have hn' : (16384 : Int) < (n : Int) := by omega
  go_enter Tryz.func133, Tryz.ntmps133
  go_wp2_with fail
  go_ret2
  exact ⟨rfl, rfl⟩

/-- what mayBe tells of a token -/
def Mb18 (w : World) (v : Value) (q : Bool) : Prop := Calls Tryz.prog 139 #[v] w fun e w' => e = .returned (.bool q) ∧ Below w.heap.size w w'
set_option maxRecDepth 100000 in
set_option maxHeartbeats 2000000 in
theorem Untoken_yes (a : Option Addr) (n c : Nat) (ts : List Tk) (w : World) (hn : ts.length = n) (hR : TkR w a ts) (hN : n ≤ 16384) (r1 : List Int) (r2 : Int)
    (hM : ∀ j (hj : j < ts.length) w', Below w.heap.size w w' → Mb18 w' (tokV ts[j]) true) (hJ : ∀ w', Below w.heap.size w w' → Calls Tryz.prog 140 #[.slice a n c] w' fun e w'' => e = .returned (.tuple #[.string (strOfNums r1), .int .i64 r2]) ∧ Below w'.heap.size w' w'') :
    Calls Tryz.prog 133 #[.slice a n c] w fun e w' => e = .returned (.tuple #[.string (strOfNums r1), .int .i64 r2]) ∧ Below w.heap.size w w' := by
  have HR := hid hR
  have HM := hid hM
  generalize strOfNums r1 = RS at *
  have HJ := hid hJ
  have hN' : ¬ (16384 : Int) < (n : Int) := by omega
  clear hR hM hJ
  go_enter Tryz.func133, Tryz.ntmps133
  go_wp2_with fail
  go_loopw [11] (fun iv wr => ∃ j : Nat, iv = .int .i64 (j : Int) ∧ j ≤ n ∧ Below w.heap.size w wr) (fun iv _ => n - (intOf iv).toNat)
  case atStart => exact ⟨0, rfl, Nat.zero_le _, Below.refl _ _⟩
  case round =>
    obtain ⟨j, rfl, hj, hBe⟩ := hrel
    by_cases hjn : j < n
    · have hjt : j < ts.length := by omega
      obtain ⟨g, rfl, hg, hcs⟩ := (HR.out.next hBe).resolve_left (by intro e; rw [e] at hjt; simp at hjt)
      obtain ⟨t0, t1, t2, t3⟩ := hcs j hjt
      obtain ⟨W1, hW1⟩ : ∃ W1, W1 = wr.alloc (.cells (tcs ts[j].k (strOfNums ts[j].tx) ts[j].n ts[j].a) 227) := ⟨_, rfl⟩
      have bl1 : Below wr.heap.size wr W1 := by rw [hW1]; exact below1 _ _
      have z0 := hBe.size
      have z1 := bl1.size
      have hbe1 : Below w.heap.size w W1 := hBe.trans (bl1.mono z0)
      have HC : Hid (Calls Tryz.prog 139 #[tokV ts[j]] W1 fun e w' => e = .returned (.bool true) ∧ Below w.heap.size w w') := by
        refine (HM.out j hjt W1 hbe1).mono ?_
        rintro e w' ⟨rfl, h⟩
        exact ⟨rfl, hbe1.trans (h.mono (by omega))⟩
      have HW1 := hid hW1
      have hjn' : (j : Int) < (n : Int) := by omega
      clear hcs hBe bl1 hW1 hbe1
      generalize ts[j] = t at *
      obtain ⟨tk, tl, tn, ta⟩ := t
      simp only [tokV] at t0 t1 t2 t3 HW1 HC
      generalize strOfNums tl = U at *
      go_wp2_with fail
      rw [← HW1.out]
      refine Calls.mono HC.out ?_
      rintro e W2 ⟨rfl, h⟩
      have K := hid h
      clear h HC
      go_wp2_with fail
      exact ⟨⟨j + 1, by go_num, by omega, K.out⟩, by simp [intOf]; omega⟩
    · have hjn' : ¬ (j : Int) < (n : Int) := by omega
      have HC := hid (HJ.out wr hBe)
      have HB := hid hBe
      clear hBe
      go_wp2_with fail
      refine Calls.mono HC.out ?_
      rintro e w' ⟨rfl, k⟩
      have K := hid k
      clear k HC
      go_wp2_with fail
      go_ret2
      exact ⟨rfl, HB.out.trans (K.out.mono HB.out.size)⟩
set_option maxRecDepth 100000 in
set_option maxHeartbeats 2000000 in
theorem Untoken_no (a : Option Addr) (n c : Nat) (ts : List Tk) (w : World) (hn : ts.length = n) (hR : TkR w a ts) (hN : n ≤ 16384) (m : Nat) (hm : m < n)
    (hM : ∀ j (hj : j < ts.length) w', j ≤ m → Below w.heap.size w w' → Mb18 w' (tokV ts[j]) (decide (j < m))) :
    Calls Tryz.prog 133 #[.slice a n c] w fun e w' => e = .returned (.tuple #[.string ⟨#[]⟩, .int .i64 185]) ∧ Below w.heap.size w w' := by
  have HR := hid hR
  have HM := hid hM
  have hN' : ¬ (16384 : Int) < (n : Int) := by omega
  clear hR hM
  go_enter Tryz.func133, Tryz.ntmps133
  go_wp2_with fail
  go_loopw [11] (fun iv wr => ∃ j : Nat, iv = .int .i64 (j : Int) ∧ j ≤ m ∧ Below w.heap.size w wr) (fun iv _ => n - (intOf iv).toNat)
  case atStart => exact ⟨0, rfl, Nat.zero_le _, Below.refl _ _⟩
  case round =>
    obtain ⟨j, rfl, hj, hBe⟩ := hrel
    have hjt : j < ts.length := by omega
    obtain ⟨g, rfl, hg, hcs⟩ := (HR.out.next hBe).resolve_left (by intro e; rw [e] at hjt; simp at hjt)
    obtain ⟨t0, t1, t2, t3⟩ := hcs j hjt
    obtain ⟨W1, hW1⟩ : ∃ W1, W1 = wr.alloc (.cells (tcs ts[j].k (strOfNums ts[j].tx) ts[j].n ts[j].a) 227) := ⟨_, rfl⟩
    have bl1 : Below wr.heap.size wr W1 := by rw [hW1]; exact below1 _ _
    have z0 := hBe.size
    have z1 := bl1.size
    have hbe1 : Below w.heap.size w W1 := hBe.trans (bl1.mono z0)
    have HC : Hid (Calls Tryz.prog 139 #[tokV ts[j]] W1 fun e w' => e = .returned (.bool (decide (j < m))) ∧ Below w.heap.size w w') := by
      refine (HM.out j hjt W1 hj hbe1).mono ?_
      rintro e w' ⟨rfl, h⟩
      exact ⟨rfl, hbe1.trans (h.mono (by omega))⟩
    have HW1 := hid hW1
    have hjn' : (j : Int) < (n : Int) := by omega
    clear hcs hBe bl1 hW1 hbe1
    generalize ts[j] = t at *
    obtain ⟨tk, tl, tn, ta⟩ := t
    simp only [tokV] at t0 t1 t2 t3 HW1 HC
    generalize strOfNums tl = U at *
    by_cases q : j < m
    · rw [decide_eq_true q] at HC
      go_wp2_with fail
      rw [← HW1.out]
      refine Calls.mono HC.out ?_
      rintro e W2 ⟨rfl, h⟩
      have K := hid h
      clear h HC
      go_wp2_with fail
      exact ⟨⟨j + 1, by go_num, by omega, K.out⟩, by simp [intOf]; omega⟩
    · rw [decide_eq_false q] at HC
      go_wp2_with fail
      rw [← HW1.out]
      refine Calls.mono HC.out ?_
      rintro e W2 ⟨rfl, h⟩
      have K := hid h
      clear h HC
      go_wp2_with fail
      go_ret2
      exact ⟨rfl, K.out⟩

end Go.Proofs.YtbllaacbeagljaaGreatDoor
