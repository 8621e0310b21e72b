/-
  Unpack: what is refused; CopyInts.
-/
import Derived.Test.YteaebdonnicbkaaCopy
namespace Go.Proofs.Yteaebdonnicbkaa
open Go.RowKit

/-- what an Unpack that is refused answers -/
def perr (E : Int) : Value := .tuple #[.slice none 0 0, .int .i64 E]

set_option maxRecDepth 100000 in
set_option maxHeartbeats 1000000 in
theorem Unpack_width (a a2 : Option Addr) (n c m c2 : Nat) (ws : List Int) (w : World) (hm : m ≤ 16777216) (hR2 : RdI w.heap.size w a2 m ws) (hbad : ¬ okW ws) :
    Calls Try.prog 18 #[.slice a n c, .slice a2 m c2] w fun e w' => e = .returned (perr 10) ∧ w' = w := by
  obtain ⟨hl, h3⟩ := hR2
  go_enter Try.func18, Try.ntmps18
  go_wp2
  go_loop [6, 16] (fun s i => ∃ k : Nat, k ≤ m ∧ i = .int .i64 (k : Int) ∧ s = .int .i64 (sumW (ws.take k) : Int) ∧ okW (ws.take k)) (fun _ i => m - (intOf i).toNat)
  case atStart => exact ⟨0, Nat.zero_le _, rfl, rfl, by intro x hx; simp at hx⟩
  case round =>
    obtain ⟨k, hk, rfl, rfl, hokk⟩ := hrel
    by_cases hkm : k < m
    · obtain ⟨b, off, rfl, hb, hc⟩ := h3.resolve_left (by omega)
      obtain ⟨x, hx⟩ : ∃ x, x = ws.getD k 0 := ⟨_, rfl⟩
      have hcx := hc k hkm
      have hs := sumW_snoc (ws := ws) (k := k) (by omega)
      have hle := sumW_le hokk
      rw [List.length_take] at hle
      have hts := take_snoc (L := ws) (j := k) (by omega)
      rw [← List.getD_eq_getElem?_getD, ← hx] at hts
      rw [← hx] at hcx hs
      have HS := hid hs
      have HT := hid hts
      have HO := hid hokk
      have hle2 : sumW (ws.take k) ≤ 134217728 := by omega
      clear hs hle hx hc hts hokk
      generalize sumW (ws.take k) = pl at *
      by_cases hck : wfB x = true
      · obtain ⟨x1, x2⟩ := wf_bd hck
        go_wp2_with (go_at_call 38; refine (widthFits_any x _).mono ?_; rintro e w1 ⟨rfl, rfl⟩)
        go_round
        case rel =>
          refine ⟨k + 1, by omega, by go_num, by rw [HS.out]; congr 1; omega, ?_⟩
          rw [HT.out]
          intro y hy
          rcases List.mem_append.1 hy with h | h
          · exact HO.out y h
          · simp at h; rw [h]; exact hck
        case measure => simp [intOf]; omega
      · have hck2 : wfB x = false := by simpa using hck
        clear hck
        go_wp2_with (go_at_call 38; refine (widthFits_any x _).mono ?_; rintro e w1 ⟨rfl, rfl⟩)
        go_ret2
        exact ⟨rfl, rfl⟩
    · exact absurd (by rw [List.take_of_length_le (by omega)] at hokk; exact hokk) hbad

set_option maxRecDepth 100000 in
set_option maxHeartbeats 1000000 in
theorem Unpack_size (a a2 : Option Addr) (n c m c2 : Nat) (ws : List Int) (w : World) (hm : m ≤ 16777216) (hR2 : RdI w.heap.size w a2 m ws) (hok : okW ws) (hbad : n ≠ sumW ws) :
    Calls Try.prog 18 #[.slice a n c, .slice a2 m c2] w fun e w' => e = .returned (perr 12) ∧ w' = w := by
  obtain ⟨hl, h3⟩ := hR2
  go_enter Try.func18, Try.ntmps18
  go_wp2
  go_loop [6, 16] (fun s i => ∃ k : Nat, k ≤ m ∧ i = .int .i64 (k : Int) ∧ s = .int .i64 (sumW (ws.take k) : Int)) (fun _ i => m - (intOf i).toNat)
  case atStart => exact ⟨0, Nat.zero_le _, rfl, rfl⟩
  case round =>
    obtain ⟨k, hk, rfl, rfl⟩ := hrel
    by_cases hkm : k < m
    · obtain ⟨b, off, rfl, hb, hc⟩ := h3.resolve_left (by omega)
      obtain ⟨x, hx⟩ : ∃ x, x = ws.getD k 0 := ⟨_, rfl⟩
      have hmem : ws.getD k 0 ∈ ws := by
        have : k < ws.length := by omega
        simp [this]
      have hck := hok _ hmem
      have hcx := hc k hkm
      have hs := sumW_snoc (ws := ws) (k := k) (by omega)
      have hle := sumW_le (ws := ws.take k) (fun f hf => hok f (List.mem_of_mem_take hf))
      rw [List.length_take] at hle
      rw [← hx] at hcx hck hs
      have HS := hid hs
      obtain ⟨x1, x2⟩ := wf_bd hck
      have hle2 : sumW (ws.take k) ≤ 134217728 := by omega
      clear hs hle hx hmem hc hbad
      generalize sumW (ws.take k) = pl at *
      go_wp2_with (go_at_call 38; refine (widthFits_any x _).mono ?_; rintro e w1 ⟨rfl, rfl⟩)
      go_round
      case rel => exact ⟨k + 1, by omega, by go_num, by rw [HS.out]; congr 1; omega⟩
      case measure => simp [intOf]; omega
    · have e : ws.take k = ws := List.take_of_length_le (by omega)
      rw [e]
      have hne : ((n : Int) != (sumW ws : Int)) = true := by simp; omega
      clear e
      generalize sumW ws = T at *
      go_wp2
      go_ret2
      exact ⟨rfl, rfl⟩

set_option maxRecDepth 100000 in
set_option maxHeartbeats 1000000 in
theorem Unpack_value (a a2 : Option Addr) (n c m c2 : Nat) (zs ws : List Int) (w : World) (hm : m ≤ 16777216) (hcap : n ≤ c) (hR : Rd w.heap.size w a n zs) (hR2 : RdI w.heap.size w a2 m ws) (hok : okW ws) (hn : n = sumW ws) (hbad : ∃ k, k < m ∧ 9223372036854775807 < valK zs ws k) :
    Calls Try.prog 18 #[.slice a n c, .slice a2 m c2] w fun e w' => e = .returned (perr 11) ∧ Below w.heap.size w w' := by
  obtain ⟨hl, h3⟩ := hR2
  have HN := hid hn
  have HBAD := hid hbad
  have hle := sumW_le hok
  have hn2 : n ≤ 134217728 := by omega
  clear hle hn hbad
  go_enter Try.func18, Try.ntmps18
  go_wp2
  go_loop [6, 16] (fun s i => ∃ k : Nat, k ≤ m ∧ i = .int .i64 (k : Int) ∧ s = .int .i64 (sumW (ws.take k) : Int)) (fun _ i => m - (intOf i).toNat)
  case atStart => exact ⟨0, Nat.zero_le _, rfl, rfl⟩
  case round =>
    obtain ⟨k, hk, rfl, rfl⟩ := hrel
    by_cases hkm : k < m
    · obtain ⟨b, off, rfl, hb, hc⟩ := h3.resolve_left (by omega)
      obtain ⟨x, hx⟩ : ∃ x, x = ws.getD k 0 := ⟨_, rfl⟩
      have hmem : ws.getD k 0 ∈ ws := by
        have : k < ws.length := by omega
        simp [this]
      have hck := hok _ hmem
      have hcx := hc k hkm
      have hs := sumW_snoc (ws := ws) (k := k) (by omega)
      have hle := sumW_le (ws := ws.take k) (fun f hf => hok f (List.mem_of_mem_take hf))
      rw [List.length_take] at hle
      rw [← hx] at hcx hck hs
      have HS := hid hs
      obtain ⟨x1, x2⟩ := wf_bd hck
      have hle2 : sumW (ws.take k) ≤ 134217728 := by omega
      clear hs hle hx hmem hc
      generalize sumW (ws.take k) = pl at *
      go_wp2_with (go_at_call 38; refine (widthFits_any x _).mono ?_; rintro e w1 ⟨rfl, rfl⟩)
      go_round
      case rel => exact ⟨k + 1, by omega, by go_num, by rw [HS.out]; congr 1; omega⟩
      case measure => simp [intOf]; omega
    · have e : ws.take k = ws := List.take_of_length_le (by omega)
      rw [e, ← HN.out]
      have hmk := make_i64 m (by omega)
      have hB0 := hid (Blk.new (k := .i64) (e := 3) w (zeros m))
      have hb0 : Below w.heap.size w (w.alloc (.cells ((zeros m).map (Value.int .i64)).toArray 3)) := (Below.refl _ _).alloc (Nat.le_refl _) _
      have Hb0 := hid hb0
      clear e hb0
      go_wp2
      clear hkm hk
      go_loopw [10, 36] (fun s i wt => ∃ (k : Nat) (ys : List Int), k ≤ m ∧ i = .int .i64 (k : Int) ∧ s = .int .i64 (sumW (ws.take k) : Int) ∧ Blk .i64 3 wt w.heap.size ys ∧ ys.length = m ∧ Below w.heap.size w wt ∧ (∀ j, j < k → valK zs ws j ≤ 9223372036854775807)) (fun _ i _ => m - (intOf i).toNat)
      case atStart => exact ⟨0, zeros m, Nat.zero_le _, rfl, rfl, hB0.out, length_zeros m, Hb0.out, fun j h => by omega⟩
      case round =>
        obtain ⟨k, ys, hk, rfl, rfl, hBk, hyl, hbt, hvs⟩ := hrel
        have HB := hid hBk
        have HV := hid hvs
        clear hBk hvs
        by_cases hkm : k < m
        · obtain ⟨b2, off2, rfl, hb2, hc2⟩ := h3.resolve_left (by omega)
          have hmem : ws.getD k 0 ∈ ws := by
            have : k < ws.length := by omega
            simp [this]
          have hck := hok _ hmem
          obtain ⟨x1, x2⟩ := wf_bd hck
          obtain ⟨X, hX⟩ := Int.eq_ofNat_of_zero_le (show 0 ≤ ws.getD k 0 by omega)
          have hcx := (hbt.cell (p := ⟨b2, off2 + k, none⟩) (by exact hb2)).trans (hc2 k hkm)
          have hs := sumW_snoc (ws := ws) (k := k) (by omega)
          have hp := sumW_part (ws := ws) (k := k) (by omega)
          have hv0 : 0 ≤ valK zs ws k := Pl.num_nonneg (Pl.isB_take (Pl.isB_drop hR.2.1 _) _)
          obtain ⟨b, off, rfl, hb, hc⟩ := hR.2.2.resolve_left (by rw [HN.out]; omega)
          rw [hX] at hcx hs hp x1 x2
          rw [← HN.out] at hp
          simp only [Int.toNat_natCast] at hs hp
          have hg := getNumber_any b (off + sumW (ws.take k)) X (c - sumW (ws.take k)) ((zs.drop (sumW (ws.take k))).take X) wr (by omega) (by rw [List.length_take, List.length_drop, hR.1]; omega) (Pl.isB_take (Pl.isB_drop hR.2.1 _) _)
            (fun t ht => (hbt.cell (by exact hb)).trans (part_cells hc _ _ hp t ht))
          have hval : Pl.num ((zs.drop (sumW (ws.take k))).take X) = valK zs ws k := by unfold valK; rw [hX]; rfl
          rw [hval] at hg
          have HG := hid hg
          have HS := hid hs
          have HL := hid hyl
          have hck2 := HB.out.cell k (by omega)
          have hfk := HB.out.frozen k
          generalize ys.getD k 0 = old at *
          clear hval hs hg hck hmem hX hc2 hc hyl
          generalize sumW (ws.take k) = pl at *
          generalize hVV : valK zs ws k = V at *
          have HVK := hid hVV
          clear hVV
          have hne : ¬ c = pl := by omega
          by_cases hgt : 9223372036854775807 < V
          · go_wp2_with fail
            refine Calls.mono HG.out ?_
            rintro e w1 ⟨rfl, rfl⟩
            go_wp2
            go_ret2
            exact ⟨rfl, hbt⟩
          · go_wp2_with fail
            refine Calls.mono HG.out ?_
            rintro e w1 ⟨rfl, rfl⟩
            go_wp2
            go_roundw
            case rel =>
              refine ⟨k + 1, ys.set k V, by omega, by go_num, by rw [HS.out]; rfl, HB.out.set k V, by rw [List.length_set]; exact HL.out, hbt.setCell (Nat.le_refl _) _, fun j hj => ?_⟩
              by_cases e : j = k
              · subst e; rw [HVK.out]; omega
              · exact HV.out j (by omega)
            case measure => simp [intOf]; omega
        · obtain ⟨j, hj, hbig⟩ := HBAD.out
          have := HV.out j (by omega)
          omega

/-- NUMBERS OF ONE's OWN, with spare room: block g -/
def OwnI (w : World) (g n cap : Nat) (zs : List Int) : Prop := w.ownsRow g 3 1 (.slice (some ⟨g, 0, none⟩) n cap) n (zs.map (Value.int .i64))
theorem OwnI.of {w : World} {base g n cap : Nat} {zs : List Int} (h : w.ownsRow base 3 1 (.slice (some ⟨g, 0, none⟩) n cap) n (zs.map (Value.int .i64))) : OwnI w g n cap zs := by
  obtain ⟨h1, h2⟩ := h
  refine ⟨h1, ?_⟩
  rcases h2 with ⟨h2, _⟩ | ⟨g', cap', cur, hv, _, r⟩
  · cases h2
  · simp at hv
    obtain ⟨rfl, rfl⟩ := hv
    exact .inr ⟨g, cap, cur, rfl, Nat.le_refl _, r⟩
theorem OwnI.len {w : World} {g n cap : Nat} {zs : List Int} (h : OwnI w g n cap zs) : zs.length = n := by simpa using h.1
theorem OwnI.lt {w : World} {g n cap : Nat} {zs : List Int} (h : OwnI w g n cap zs) : g < w.heap.size := (World.ownsRow.lt h g rfl).2
theorem OwnI.rdi {w : World} {g n cap : Nat} {zs : List Int} (h : OwnI w g n cap zs) : RdI w.heap.size w (some ⟨g, 0, none⟩) n zs := by
  refine ⟨h.len, .inr ⟨g, 0, rfl, h.lt, fun t ht => ?_⟩⟩
  have h2 := World.ownsRow.cellAt h t (by omega)
  have h3 := h.len
  rw [Nat.zero_add, h2]
  simp [show t < zs.length by omega]

set_option maxHeartbeats 400000 in
theorem CopyInts_any (a : Option Addr) (n c : Nat) (zs : List Int) (w : World) (hn : n ≤ 1073741824) (hnil : a = none → c = 0) (hR : RdI w.heap.size w a n zs) :
    Calls Try.prog 20 #[.slice a n c] w fun e w' => ∃ g cap, e = .returned (.slice (some ⟨g, 0, none⟩) n cap) ∧ w.heap.size ≤ g ∧ OwnI w' g n cap zs ∧ Below w.heap.size w w' := by
  obtain ⟨i0, hi, hz0, hz1, hz2⟩ := info_parts info3
  have hb : Below w.heap.size w (w.alloc (.cells #[] 3)) := (Below.refl _ _).alloc (Nat.le_refl _) _
  have h0 : (w.alloc (.cells #[] 3)).ownsRow w.heap.size 3 1 (.slice (some ⟨w.heap.size, 0, none⟩) 0 0) 0 [] := World.ownsRow_lit w #[] 0 (Nat.le_refl _) (by decide) rfl
  have hR2 := hR.below hb
  have hl := hR.1
  cases a with
  | none =>
    obtain ⟨h1, h3⟩ := hR
    have hn0 : n = 0 := by rcases h3 with h3 | ⟨_, _, h3, _⟩; exact h3; cases h3
    subst hn0
    obtain rfl : zs = [] := List.length_eq_zero_iff.1 h1
    obtain rfl : c = 0 := hnil rfl
    have hO : OwnI (w.alloc (.cells #[] 3)) w.heap.size 0 0 [] := OwnI.of h0
    go_enter Try.func20, Try.ntmps20
    go_wp2_with (at_builtin; refine wpList_append_own_none rfl _ _ 36 rfl w.heap.size 3 i0 1 Try.underlying36 hi _ 0 [] rfl h0 rfl ?_)
    go_ret
    exact ⟨_, _, rfl, Nat.le_refl _, hO, hb⟩
  | some ad =>
    have hsrc : ∀ j u, (zs.map (Value.int .i64))[j]? = some u → (w.alloc (.cells #[] 3)).cell? (ad.add j) = some u := by
      by_cases h0 : n = 0
      · intro j u h
        rw [h0] at hl
        obtain rfl : zs = [] := List.length_eq_zero_iff.1 hl
        simp at h
      · obtain ⟨_, h3⟩ := hR2
        rcases h3 with h3 | ⟨b, off, e, _, hc⟩
        · omega
        · cases e
          intro j v hv
          rw [List.getElem?_map] at hv
          cases hz : zs[j]? with
          | none => rw [hz] at hv; cases hv
          | some z =>
            rw [hz] at hv
            simp at hv
            subst hv
            have hj : j < zs.length := (List.getElem?_eq_some_iff.1 hz).1
            have := hc j (by omega)
            rw [List.getD_eq_getElem?_getD, hz] at this
            rw [show (⟨b, off, none⟩ : Addr).add j = ⟨b, off + j, none⟩ from by unfold Addr.add; split <;> simp_all]
            exact this
    go_enter Try.func20, Try.ntmps20
    go_wp2_with (at_builtin; refine wpList_append_own _ rfl _ _ 36 rfl w.heap.size 3 i0 (.int .i64 0) 1 8 Try.underlying36 hi hz0 hz1 hz2 rfl (by decide) _ 0 [] rfl h0 ad n c (zs.map (Value.int .i64)) rfl (by rw [List.length_map, hl, Nat.mul_one]) hsrc (ints_oneCell _ _) (by unfold maxLen; omega) (by omega) (by simp) ?_)
    intro v' w1 hown hgrow hnn
    obtain ⟨g, cap, rfl, hg, _⟩ := owns_form hown hnn
    have HO := hid (OwnI.of hown)
    have hb1 : Below w.heap.size w w1 := hb.grown hgrow (by simp) (fun k h => by cases h; exact Nat.le_refl _)
    clear hown hgrow hnn
    go_wp2
    go_ret
    exact ⟨g, cap, rfl, hg, HO.out, hb1⟩

end Go.Proofs.Yteaebdonnicbkaa
