/-
  lex: digits.
-/
import Derived.Test.YtbllaacbeagljaaGreatDoorSc4
import Derived.Lib.ConvBytes
namespace Go.Proofs.YtbllaacbeagljaaGreatDoor
open Go.RowKit

/-- []byte(s) -/
theorem conv_bytes (l : List Int) (hb : Pl.isB l) (w : World) : ∃ W c, (convert 9 216 (.string (strOfNums l))).run Tryz.prog w = .ok (.slice (some ⟨w.heap.size, 0, none⟩) l.length c) W ∧ (∀ j, j < l.length → W.cell? ⟨w.heap.size, j, none⟩ = some (.int .u8 (l.getD j 0))) ∧ Below w.heap.size w W := by
  refine ⟨Lib.bytesWorld w 5 (strOfNums l), grownCap w (strOfNums l).size 0 5, ?_, fun j hj => ?_, ⟨rfl, rfl, rfl, ?_, fun k hk => Lib.bytesWorld_at_old _ _ _ _ hk⟩⟩
  · rw [Lib.run_convert_string_bytes w 9 216 5 (strOfNums l) Tryz.underlying9 Tryz.underlying216 Tryz.underlying5, str_size]
  · rw [Lib.bytesWorld_cell _ _ _ _ (by rw [str_size]; exact hj)]
    have h := hb (l[j]'hj) (List.getElem_mem hj)
    congr 2
    simp [strOfNums, hj]
    omega
  · rw [Lib.bytesWorld_size]; omega

theorem dgS_bd {v z : Int} (h0 : 0 ≤ v) (h1 : v ≤ 1099511627777) (hz : 48 ≤ z ∧ z ≤ 57) : 0 ≤ dgS v z ∧ dgS v z ≤ 1099511627777 := by unfold dgS; omega
theorem dgV_bd : ∀ (l : List Int) (v : Int), 0 ≤ v → v ≤ 1099511627777 → (∀ z ∈ l, 48 ≤ z ∧ z ≤ 57) → 0 ≤ dgV v l ∧ dgV v l ≤ 1099511627777
  | [], v, h0, h1, _ => ⟨h0, h1⟩
  | z :: r, v, h0, h1, hl => by
    have h := dgS_bd h0 h1 (hl z (by simp))
    exact dgV_bd r (dgS v z) h.1 h.2 (fun y hy => hl y (by simp [hy]))
theorem dgV_snoc (v : Int) (l : List Int) (z : Int) : dgV v (l ++ [z]) = dgS (dgV v l) z := by unfold dgV; rw [List.foldl_append]; rfl
theorem subL_len {zs : List Int} {a b : Nat} (h : b ≤ zs.length) : (subL zs a b).length = b - a := by unfold subL; simp; omega
theorem subL_at {zs : List Int} {a b j : Nat} (_h : b ≤ zs.length) (hj : j < b - a) : (subL zs a b).getD j 0 = zs.getD (a + j) 0 := by
  unfold subL
  rw [List.getD_eq_getElem?_getD, List.getElem?_drop, List.getElem?_take_of_lt (by omega), List.getD_eq_getElem?_getD]
theorem isB_sub {zs : List Int} (h : Pl.isB zs) (a b : Nat) : Pl.isB (subL zs a b) := Pl.isB_drop (Pl.isB_take h _) _
/-- all that is passed is so -/
theorem pasA_all {p : Int → Bool} (zs : List Int) : ∀ (a j : Nat), a ≤ j → j < pasA p zs a → p (zs.getD j 0) = true := by
  refine down (zs := zs) ?_ ?_
  · intro a ha j h1 h2
    rw [pasA_end ha] at h2
    omega
  · intro a ha ih j h1 h2
    cases q : p (zs.getD a 0) with
    | true =>
      rw [pasA_step ha q] at h2
      by_cases e : j = a
      · rw [e]; exact q
      · exact ih j (by omega) h2
    | false =>
      rw [pasA_stop ha q] at h2
      omega
theorem sub_all {p : Int → Bool} {zs : List Int} {a : Nat} (ha : a ≤ zs.length) : ∀ z ∈ subL zs a (pasA p zs a), p z = true := by
  intro z hz
  have hl := pasA_le (p := p) ha
  obtain ⟨j, hj, e⟩ := List.getElem_of_mem hz
  rw [subL_len hl] at hj
  have h1 := subL_at (zs := zs) (a := a) (b := pasA p zs a) hl hj
  rw [List.getD_eq_getElem?_getD, List.getElem?_eq_getElem (by rw [subL_len hl]; exact hj)] at h1
  simp only [Option.getD_some] at h1
  rw [← e, h1]
  exact pasA_all zs a (a + j) (by omega) (by omega)

set_option maxRecDepth 100000 in
set_option maxHeartbeats 2000000 in
theorem digits_any {w : World} {k : Nat} {zs : List Int} {a : Nat} (hb : Pl.isB zs) (hl : zs.length ≤ 16777216) (ha : a < zs.length) (h : Scn w k (strOfNums zs) a) :
    Calls Tryz.prog 179 #[.pointer (some ⟨k, 0, none⟩)] w fun e w' => e = .returned (.int .i64 (nbV zs a)) ∧ Scn w' k (strOfNums zs) (dgE zs a) ∧ But (fun x => x = k) w w' := by
  have c1 := h.c1
  have HP := hid (pass_any tells50 hb hl (Nat.le_of_lt ha) h)
  unfold nbV dgE
  have HD : Hid (∀ z ∈ subL zs a (pasA isDig zs a), 48 ≤ z ∧ z ≤ 57) := fun z hz => by
    have := sub_all (p := isDig) (Nat.le_of_lt ha) z hz
    simpa [isDig] using this
  obtain ⟨E, hE⟩ : ∃ E, E = pasA isDig zs a := ⟨_, rfl⟩
  have hE1 : a ≤ E := by rw [hE]; exact pasA_ge _ _ _
  have hE2 : E ≤ zs.length := by rw [hE]; exact pasA_le (by omega)
  rw [← hE] at HP HD ⊢
  have hcut := str_cut zs a E
  have hsz := str_size zs
  have hll : (subL zs a E).length ≤ 16777216 := by rw [subL_len hE2]; omega
  have HC := hid (fun u => conv_bytes (subL zs a E) (isB_sub hb a E) u)
  have hE1' : (a : Int) ≤ (E : Int) := by omega
  have hE2' : (E : Int) ≤ ((strOfNums zs).size : Int) := by omega
  clear hE h
  generalize strOfNums (subL zs a E) = U at *
  generalize strOfNums zs = S at *
  generalize subL zs a E = l at *
  go_enter Tryz.func179, Tryz.ntmps179
  go_wp2_with fail
  refine Calls.mono HP.out ?_
  rintro e w1 ⟨⟨v, rfl⟩, h1, h2, h3⟩
  have d0 := h1.c0
  have d1 := h1.c1
  obtain ⟨W, c, hrun, hcell, hbel⟩ := HC.out w1.drew
  have HF : Hid (Scn W k S E ∧ But (fun x => x = k) w W) := ⟨h1.drew.but (But.of_below (X := fun _ => False) hbel) (fun h => h), h2.drew.into (But.of_below (X := fun _ => False) hbel) (fun _ _ h => h.elim)⟩
  have HCL := hid hcell
  obtain ⟨g, hg⟩ : ∃ g, g = w1.drew.heap.size := ⟨_, rfl⟩
  rw [← hg] at hrun HCL
  clear h1 h2 h3 HC HP hbel hcell hg
  go_wp2_with fail
  go_region
  go_wp2_with fail
  go_loop [4, 25] (fun v i => ∃ j : Nat, j ≤ l.length ∧ i = .int .i64 (j : Int) ∧ v = .int .i64 (dgV 0 (l.take j))) (fun _ i => l.length - (intOf i).toNat)
  case atStart => exact ⟨0, by omega, rfl, by simp [dgV]⟩
  case round =>
    obtain ⟨j, hj, rfl, rfl⟩ := hrel
    by_cases q : j < l.length
    · have hc := HCL.out j q
      have hz := HD.out (l[j]'q) (List.getElem_mem q)
      have hd := dgV_bd (l.take j) 0 (by decide) (by decide) (fun y hy => HD.out y (List.mem_of_mem_take hy))
      have hst : dgV 0 (l.take (j + 1)) = dgS (dgV 0 (l.take j)) (l[j]'q) := by rw [List.take_succ_eq_append_getElem q, dgV_snoc]
      have hgd : l.getD j 0 = l[j]'q := by simp [q]
      rw [hgd] at hc
      have HST := hid hst
      generalize dgV 0 (l.take j) = x at *
      generalize l[j]'q = z at *
      have q' : (j : Int) < (l.length : Int) := by omega
      obtain ⟨z0, z1⟩ := hz
      obtain ⟨x0, x1⟩ := hd
      have hm1 : IntKind.i64.wrap (10 * x) = 10 * x := by rw [IntKind.wrap_i64]; omega
      have hm2 : IntKind.u8.wrap (z - 48) = z - 48 := by rw [IntKind.wrap_u8]; omega
      clear hst hgd
      go_wp2
      refine ⟨⟨j + 1, by omega, by rw [Int.natCast_add]; rfl, ?_⟩, by simp [intOf]; omega⟩
      rw [HST.out]
      unfold dgS
      congr 1
      split <;> omega
    · have q' : ¬ (j : Int) < (l.length : Int) := by omega
      have : j = l.length := by omega
      subst this
      rw [List.take_length]
      go_wp2
      go_ret
      exact ⟨rfl, HF.out⟩

end Go.Proofs.YtbllaacbeagljaaGreatDoor
