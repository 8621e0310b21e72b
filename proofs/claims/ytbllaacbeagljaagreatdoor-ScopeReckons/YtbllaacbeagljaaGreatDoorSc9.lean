/-
  lex: token, next.
-/
import Derived.Test.YtbllaacbeagljaaGreatDoorSc8
import Derived.Deep.RegionWith
namespace Go.Proofs.YtbllaacbeagljaaGreatDoor
open Go.RowKit

theorem eql_func (f : Nat) (u : World) : Sem.run Tryz.prog (binOp .eql 264 (.func (.func f) #[] #[]) .nilFunc) u = .ok (.bool false) u := by kernel_rfl
theorem eql_nil (u : World) : Sem.run Tryz.prog (binOp .eql 264 .nilFunc .nilFunc) u = .ok (.bool true) u := by kernel_rfl
set_option maxRecDepth 100000 in
set_option maxHeartbeats 2000000 in
theorem token_of (f : Nat) (hent : ∀ gs u, Sem.run Tryz.prog (callFunc f gs) u = .ok (.enter f gs) u) {w : World} {k : Nat} {zs : List Int} {a : Nat} (r : Tk × Nat × Int) (hb : Pl.isB zs) (hl : zs.length ≤ 16777216) (ha : a < zs.length) (h : Scn w k (strOfNums zs) a)
    (hbg : ∀ u, Calls Tryz.prog 161 #[.int .u8 (zs.getD a 0)] u fun e u' => e = .returned (.func (.func f) #[] #[]) ∧ u' = u)
    (hf : ∀ u, Scn u k (strOfNums zs) a → Calls Tryz.prog f #[.pointer (some ⟨k, 0, none⟩)] u (TokC k zs r u)) :
    Calls Tryz.prog 149 #[.pointer (some ⟨k, 0, none⟩)] w (TokC k zs r w) := by
  obtain ⟨W0, hW0⟩ : ∃ W0, W0 = w.alloc (.cells (tcs 0 sE 0 0) 227) := ⟨_, rfl⟩
  obtain ⟨R, hR⟩ : ∃ R, R = w.heap.size := ⟨_, rfl⟩
  have b0 : Below w.heap.size w W0 := by rw [hW0]; exact below1 _ _
  have r0 : TkB W0 R 0 sE 0 0 := by rw [hW0, hR]; exact heap_new _ _
  have s0 : Scn W0 k (strOfNums zs) a := by rw [hW0]; exact h.alloc _
  have hkl := h.lt
  have c0 := fun o => (h.alloc o).c0
  have c1 := fun o => (h.alloc o).c1
  have hsz := str_size zs
  have hbS : a < (strOfNums zs).size := by omega
  have hg := str_get zs hb a ha hbS
  have hlb : (a : Int) ≤ 16777216 := by omega
  have hlt : (a : Int) < zs.length := by omega
  have HF0 := hid (hf W0.drew s0)
  have HBG := hid hbg
  obtain ⟨PO, hPO⟩ : ∃ PO, PO = TokC k zs r w := ⟨_, rfl⟩
  rw [← hPO]
  obtain ⟨⟨tk, tl, tn, ta⟩, to, c⟩ := r
  have HF : Hid (∀ w3 w4 : World, (c = 0 → Scn w3 k (strOfNums zs) to) → But (fun x => x = k) W0.drew w3 → w4 = put4 w3 R tk (strOfNums tl) tn ta → TkB w3 R 0 sE 0 0 ∧ TkB w4 R tk (strOfNums tl) tn ta ∧ PO (.returned (.tuple #[.agg (tcs tk (strOfNums tl) tn ta), .int .i64 c])) w4) := fun w3 w4 h1 h2 h4 => by
    have h2' : But (fun x => x = k) W0 w3 := (But.refl _ _).drew.trans h2
    have hp := but_put4 w3 R tk (strOfNums tl) tn ta
    have r3 := r0.keep (h2'.block R r0.lt (by omega))
    have r4 := r3.put4 tk (strOfNums tl) tn ta
    have hs4 : c = 0 → Scn (put4 w3 R tk (strOfNums tl) tn ta) k (strOfNums zs) to := fun e => (h1 e).but hp (fun e => by omega)
    have hb4 : But (fun y => y = k) w (put4 w3 R tk (strOfNums tl) tn ta) := ((But.of_below b0).trans h2').into hp (fun x hx e => by omega)
    subst h4
    rw [hPO]
    exact ⟨r3, r4, rfl, hs4, hb4⟩
  have HW0 := hid hW0
  have HR := hid hR
  clear hb h s0 r0 b0 hW0 hR hkl hPO hf hbg
  unfold TokC tokV at HF0
  simp only at HF0
  generalize zs.getD a 0 = z at *
  generalize strOfNums tl = U at *
  generalize strOfNums zs = S at *
  have heq := eql_func f
  go_enter Tryz.func149, Tryz.ntmps149
  go_wp2_with fail
  go_region_with (go_at_call 161; refine Calls.mono (HBG.out _) ?_; rintro e w3 ⟨rfl, rfl⟩)
  all_goals
    go_wp2_with fail
    rw [← HW0.out, ← HR.out]
    refine Calls.mono HF0.out ?_
    rintro e w3 ⟨rfl, h1, h2⟩
    have HFF := hid (HF.out w3 _ h1 h2 rfl)
    have t0 := HFF.out.1.cell 0 _ rfl
    have t1 := HFF.out.1.cell 1 _ rfl
    have t2 := HFF.out.1.cell 2 _ rfl
    have t3 := HFF.out.1.cell 3 _ rfl
    have tf := HFF.out.1.fz
    clear h1 h2 HF HF0
    go_wp2_with fail
    exact bodyPost_ret (results_tok rfl _ _ R tk U tn ta (.int .i64 c) rfl rfl HFF.out.2.1) rfl HFF.out.2.2

set_option maxRecDepth 100000 in
set_option maxHeartbeats 2000000 in
theorem token_none {w : World} {k : Nat} {zs : List Int} {a : Nat} (hb : Pl.isB zs) (hl : zs.length ≤ 16777216) (ha : a < zs.length) (h : Scn w k (strOfNums zs) a)
    (hbg : ∀ u, Calls Tryz.prog 161 #[.int .u8 (zs.getD a 0)] u fun e u' => e = .returned .nilFunc ∧ u' = u) :
    Calls Tryz.prog 149 #[.pointer (some ⟨k, 0, none⟩)] w (TokC k zs (tk0 a, a, 181) w) := by
  obtain ⟨W0, hW0⟩ : ∃ W0, W0 = w.alloc (.cells (tcs 0 sE 0 0) 227) := ⟨_, rfl⟩
  obtain ⟨R, hR⟩ : ∃ R, R = w.heap.size := ⟨_, rfl⟩
  have b0 : Below w.heap.size w W0 := by rw [hW0]; exact below1 _ _
  have r0 : TkB W0 R 0 sE 0 0 := by rw [hW0, hR]; exact heap_new _ _
  have hkl := h.lt
  have c0 := fun o => (h.alloc o).c0
  have c1 := fun o => (h.alloc o).c1
  have hsz := str_size zs
  have hbS : a < (strOfNums zs).size := by omega
  have hg := str_get zs hb a ha hbS
  have hlb : (a : Int) ≤ 16777216 := by omega
  have hlt : (a : Int) < zs.length := by omega
  have HBG := hid hbg
  obtain ⟨PO, hPO⟩ : ∃ PO, PO = TokC k zs (tk0 a, a, 181) w := ⟨_, rfl⟩
  rw [← hPO]
  have HRf := hid (refused_any (a : Int) 181 W0.drew)
  have HF : Hid (∀ w3 w4 : World, Below W0.drew.heap.size W0.drew w3 → w4 = put4 w3 R 0 sE 0 a → TkB w3 R 0 sE 0 0 ∧ TkB w4 R 0 sE 0 a ∧ PO (.returned (.tuple #[.agg (tcs 0 sE 0 a), .int .i64 181])) w4) := fun w3 w4 h3 h4 => by
    have h2' : But (fun x => x = k) W0 w3 := (But.refl _ _).drew.trans (But.of_below h3)
    have hp := but_put4 w3 R 0 sE 0 a
    have r3 := r0.keep (h2'.block R r0.lt (by omega))
    have r4 := r3.put4 0 sE 0 a
    have hb4 : But (fun y => y = k) w (put4 w3 R 0 sE 0 a) := ((But.of_below b0).trans h2').into hp (fun x hx e => by omega)
    subst h4
    rw [hPO]
    exact ⟨r3, r4, rfl, fun h => (by cases h), hb4⟩
  have HW0 := hid hW0
  have HR := hid hR
  clear hb h r0 b0 hW0 hR hkl hPO hbg
  generalize zs.getD a 0 = z at *
  generalize strOfNums zs = S at *
  have heq := eql_nil
  go_enter Tryz.func149, Tryz.ntmps149
  go_wp2_with fail
  go_region_with (go_at_call 161; refine Calls.mono (HBG.out _) ?_; rintro e w3 ⟨rfl, rfl⟩)
  all_goals
    go_wp2_with fail
    rw [← HW0.out, ← HR.out]
    refine Calls.mono HRf.out ?_
    rintro e w3 ⟨rfl, h3⟩
    have HFF := hid (HF.out w3 _ h3 rfl)
    have t0 := HFF.out.1.cell 0 _ rfl
    have t1 := HFF.out.1.cell 1 _ rfl
    have t2 := HFF.out.1.cell 2 _ rfl
    have t3 := HFF.out.1.cell 3 _ rfl
    have tf := HFF.out.1.fz
    clear h3 HF HRf
    go_wp2_with fail
    exact bodyPost_ret (results_tok rfl _ _ R 0 sE 0 a (.int .i64 181) rfl rfl HFF.out.2.1) rfl HFF.out.2.2

theorem token_any {w : World} {k : Nat} {zs : List Int} {a : Nat} (hb : Pl.isB zs) (hl : zs.length ≤ 16777216) (ha : a < zs.length) (h : Scn w k (strOfNums zs) a) :
    Calls Tryz.prog 149 #[.pointer (some ⟨k, 0, none⟩)] w (TokC k zs (tokA zs a) w) := by
  unfold tokA
  cases q1 : isLet (zs.getD a 0) with
  | true =>
    rw [if_pos rfl]
    exact token_of 173 (fun _ _ => by kernel_rfl) _ hb hl ha h (fun u => begun_word _ q1 u) (fun u hu => word_any hb hl ha hu)
  | false =>
    rw [if_neg (by decide)]
    cases q2 : isDig (zs.getD a 0) with
    | true =>
      rw [if_pos rfl]
      exact token_of 171 (fun _ _ => by kernel_rfl) _ hb hl ha h (fun u => begun_digit _ q2 u) (fun u hu => number1_any hb hl ha hu)
    | false =>
      rw [if_neg (by decide)]
      by_cases q3 : zs.getD a 0 = 34
      · rw [if_pos q3]
        exact token_of 169 (fun _ _ => by kernel_rfl) _ hb hl ha h (fun u => by rw [q3]; exact begun_name u) (fun u hu => name_any hb hl ha hu)
      · rw [if_neg q3]
        cases q4 : isMk (zs.getD a 0) with
        | true =>
          rw [if_pos rfl]
          exact token_of 170 (fun _ _ => by kernel_rfl) _ hb hl ha h (fun u => begun_mark _ q4 u) (fun u hu => mark1_any hl ha hu)
        | false =>
          rw [if_neg (by decide)]
          exact token_none hb hl ha h (fun u => begun_none _ q1 q2 q3 q4 u)

end Go.Proofs.YtbllaacbeagljaaGreatDoor
