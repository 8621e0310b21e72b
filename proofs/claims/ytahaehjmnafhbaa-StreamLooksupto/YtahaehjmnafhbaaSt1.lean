/-
  stream: numbers and texts that are taken.
-/
import Derived.Test.YtahaehjmnafhbaaSt0
import Derived.Test.YtahaehjmnafhbaaUnpE
namespace Go.Proofs.Ytahaehjmnafhbaa
open Go.RowKit

theorem num_lt4 {l : List Int} (h : Pl.isB l) (hl : l.length ≤ 4) : Pl.num l < 4294967296 := by
  have h1 := Pl.num_lt h
  have h2 : (256 : Int) ^ l.length ≤ 4294967296 := by
    generalize l.length = n at hl
    rcases (show n = 0 ∨ n = 1 ∨ n = 2 ∨ n = 3 ∨ n = 4 from by omega) with rfl | rfl | rfl | rfl | rfl <;> decide
  omega
theorem pt_len {s : St} {m : Int} : (pt s m).1.length ≤ m.toNat ∧ (pt s m).2.1.length ≤ s.1.length := by
  unfold pt
  split
  · simp
  · simp; omega
theorem nbG_bd {s : St} {m : Int} (hB : Pl.isB s.1) (h4 : m ≤ 4) : 0 ≤ (nbG pt s m).1 ∧ (nbG pt s m).1 < 4294967296 ∧ (nbG pt s m).2.1.length ≤ s.1.length ∧ Pl.isB (nbG pt s m).2.1 := by
  have hb := isB_pt hB m
  have hl := pt_len (s := s) (m := m)
  exact ⟨Pl.num_nonneg hb.1, num_lt4 hb.1 (by omega), hl.2, hb.2⟩

theorem cell_new {w : World} {vs : Array Value} {t : TypeId} {S : Nat} (hS : w.heap.size = S) (i : Nat) (v : Value) (h : vs[i]? = some v) : (w.alloc (.cells vs t)).cell? ⟨S, i, none⟩ = some v := by
  have e : (w.alloc (.cells vs t)).heap[S]? = some (.cells vs t) := by
    subst hS
    show (w.heap.push _)[w.heap.size]? = _
    simp
  simp [World.cell?, e, h]
theorem cell_al {w w1 : World} {cs : Array Value} {e : TypeId} (hw : w1 = w.alloc (.cells cs e)) (t : Nat) (v : Value) (hv : cs[t]? = some v) : w1.cell? ⟨w.heap.size, t, none⟩ = some v := by
  rw [hw]
  exact cell_new rfl t v hv

set_option maxRecDepth 100000 in
set_option maxHeartbeats 1000000 in
theorem number_any {w : World} {k : Nat} {s : St} (m : Int) (hm : m = 1 ∨ m = 4) (hs : s.1.length ≤ 16777216) (h : TkS 73 w k s) :
    Calls Try.prog 27 #[.pointer (some ⟨k, 0, none⟩), .int .i64 m] w fun e w' => e = .returned (.int .i64 (nbG pt s m).1) ∧ TkS 73 w' k (nbG pt s m).2 ∧ But (fun x => x = k) w w' := by
  have hm0 : 0 ≤ m := by omega
  have hw : okW [m] := by intro x hx; simp at hx; subst hx; rcases hm with rfl | rfl <;> decide
  have hsw : sumW [m] = m.toNat := by simp [sumW]
  have HN : Hid (Calls Try.prog 35 #[.pointer (some ⟨k, 0, none⟩), .int .i64 m] w fun e w1 => ∃ v, e = .returned v ∧ ∃ W, W = w1.alloc (.cells #[.int .i64 m] 3) ∧
      Calls Try.prog 36 #[v, .slice (some ⟨w1.heap.size, 0, none⟩) 1 1] W fun e w3 => TkS 73 w3 k (nbG pt s m).2 ∧ But (fun x => x = k) w w3 ∧
        ((e = .returned (.tuple #[.slice none 0 0, .int .i64 12]) ∧ (nbG pt s m).1 = 0) ∨ ∃ g, e = .returned (.tuple #[.slice (some ⟨g, 0, none⟩) 1 1, .int .i64 0]) ∧ w3.cell? ⟨g, 0, none⟩ = some (.int .i64 (nbG pt s m).1))) := by
    refine Calls.mono (part_any m hm0 (by omega) hs h) ?_
    rintro e w1 ⟨v, rfl, hv, hT, hb, hz⟩
    obtain ⟨W, hW⟩ : ∃ W, W = w1.alloc (.cells #[.int .i64 m] 3) := ⟨_, rfl⟩
    refine ⟨v, rfl, W, hW, ?_⟩
    have hbW : But (fun x => x = k) w1 W := by rw [hW]; exact (But.refl _ _).alloc _
    have hbl : Below w1.heap.size w1 W := by rw [hW]; exact (Below.refl _ _).alloc (Nat.le_refl _) _
    have hkl := hT.lt
    have hsz : W.heap.size = w1.heap.size + 1 := by rw [hW]; simp
    have hT2 : TkS 73 W k (nbG pt s m).2 := hT.but (But.of_below (X := fun _ => False) hbl) (fun _ _ h => h)
    obtain ⟨a, c, rfl, hc, hR⟩ := hv.rd
    have hR2 : Rd W.heap.size W a (pt s m).1.length (pt s m).1 := ((hR.mono (Nat.le_of_lt hkl)).below hbl).mono hbl.size
    have hI : RdI W.heap.size W (some ⟨w1.heap.size, 0, none⟩) 1 [m] := ⟨rfl, .inr ⟨_, 0, rfl, by omega, fun t ht => by
      obtain rfl : t = 0 := by omega
      exact cell_al hW 0 _ rfl⟩⟩
    have hn : (nbG pt s m).1 = Pl.num (pt s m).1 := rfl
    have hi := isB_pt (s := s) (by obtain ⟨_, _, q⟩ := h; exact q.1) m
    have hpl := pt_len (s := s) (m := m)
    by_cases q : (s.1.length : Int) < m
    · have e : (pt s m).1 = [] := by unfold pt; rw [if_pos q]
      rw [e] at hR2 ⊢
      refine Calls.mono (Unpack_size a (some ⟨w1.heap.size, 0, none⟩) 0 c 1 1 [m] W (by decide) hI hw (by rw [hsw]; omega)) ?_
      rintro e w3 ⟨rfl, rfl⟩
      exact ⟨hT2, hb.trans hbW, .inl ⟨rfl, by rw [hn, e]; rfl⟩⟩
    · have e : (pt s m).1.length = m.toNat := by unfold pt; rw [if_neg q]; simp; omega
      have hval : valK (pt s m).1 [m] 0 = (nbG pt s m).1 := by
        rw [hn]
        unfold valK
        simp [sumW]
        rw [List.take_of_length_le (by omega)]
      have h4 := num_lt4 hi.1 (by omega)
      refine Calls.mono (Unpack_ok a (some ⟨w1.heap.size, 0, none⟩) _ c 1 1 (pt s m).1 [m] W (by decide) hc hR2 hI hw (by rw [hsw]; exact e) (fun t ht => by
        obtain rfl : t = 0 := by omega
        rw [hval, hn]; omega)) ?_
      rintro e w3 ⟨g, rfl, hg, hB, hb3⟩
      refine ⟨hT2.but (But.of_below (X := fun _ => False) hb3) (fun _ _ h => h), (hb.trans hbW).trans (But.of_below hb3), .inr ⟨g, rfl, ?_⟩⟩
      have := hB.cell 0 (by rw [length_vals]; omega)
      rw [this]
      simp [vals, hval]
  clear hw hsw h hm0 hs
  generalize (nbG pt s m).1 = N at *
  generalize (nbG pt s m).2 = S at *
  go_enter Try.func27, Try.ntmps27
  go_wp2_with fail
  refine Calls.mono HN.out ?_
  rintro e w1 ⟨v, rfl, W, hW, h36⟩
  have H36 := hid h36
  have HW := hid hW
  clear h36 hW HN
  go_wp2_with fail
  rw [← HW.out]
  refine Calls.mono H36.out ?_
  rintro e w3 ⟨hT, hb, ⟨rfl, h0⟩ | ⟨g, rfl, hc⟩⟩
  · have HE := hid (And.intro hT hb)
    subst h0
    clear hT hb H36 HW
    go_wp2
    go_ret
    exact ⟨rfl, HE.out⟩
  · have HE := hid (And.intro hT hb)
    clear hT hb H36 HW
    go_wp2
    go_ret
    exact ⟨rfl, HE.out⟩

set_option maxRecDepth 100000 in
set_option maxHeartbeats 1000000 in
theorem text_any {w : World} {k : Nat} {s : St} (hs : s.1.length ≤ 16777216) (h : TkS 73 w k s) :
    Calls Try.prog 26 #[.pointer (some ⟨k, 0, none⟩)] w fun e w' => e = .returned (.string (strOfNums (txG pt s).1)) ∧ TkS 73 w' k (txG pt s).2 ∧ But (fun x => x = k) w w' := by
  have hB : Pl.isB s.1 := by obtain ⟨_, _, q⟩ := h; exact q.1
  have hbd := nbG_bd (m := 1) hB (by decide)
  have HN : Hid (Calls Try.prog 27 #[.pointer (some ⟨k, 0, none⟩), .int .i64 1] w fun e w1 => e = .returned (.int .i64 (nbG pt s 1).1) ∧
      Calls Try.prog 35 #[.pointer (some ⟨k, 0, none⟩), .int .i64 (nbG pt s 1).1] w1 fun e w3 => ∃ v, e = .returned v ∧ (convert 22 9 v).run Try.prog w3 = .ok (.string (strOfNums (txG pt s).1)) w3 ∧ TkS 73 w3 k (txG pt s).2 ∧ But (fun x => x = k) w w3) := by
    refine Calls.mono (number_any 1 (.inl rfl) hs h) ?_
    rintro e w1 ⟨rfl, hT, hb⟩
    refine ⟨rfl, Calls.mono (part_any _ hbd.1 (by omega) (by omega) hT) ?_⟩
    rintro e w3 ⟨v, rfl, hv, hT3, hb3, _⟩
    obtain ⟨a, c, rfl, hc, hR⟩ := hv.rd
    exact ⟨_, rfl, conv_str hR c, hT3, hb.trans hb3⟩
  clear hbd h hB hs
  generalize (nbG pt s 1).1 = N at *
  generalize strOfNums (txG pt s).1 = S at *
  generalize (txG pt s).2 = S2 at *
  go_enter Try.func26, Try.ntmps26
  go_wp2_with fail
  refine Calls.mono HN.out ?_
  rintro e w1 ⟨rfl, h35⟩
  have H35 := hid h35
  clear h35 HN
  go_wp2_with fail
  refine Calls.mono H35.out ?_
  rintro e w3 ⟨v, rfl, hcv, hE⟩
  have HE := hid hE
  clear hE H35
  go_wp2
  go_ret
  exact ⟨rfl, HE.out⟩

end Go.Proofs.Ytahaehjmnafhbaa
