/-
  FieldBack: the law's walk.
-/
import Derived.Test.YteaebdonnicbkaaBkL
import Derived.Test.YteaebdonnicbkaaFair
import Derived.Test.YteaebdonnicbkaaStd0
import Derived.Deep.RegionHeld3
namespace Go.Proofs.Yteaebdonnicbkaa
open Go.RowKit

theorem info38 : (Try.prog.info? 38).map (fun i => (i.zero, i.size, i.bytes)) = some (some (.agg #[.int .i64 0, .int .i64 0]), 2, 16) := by kernel_rfl
theorem vals_getD (zs ws : List Int) : ∀ (m k : Nat), k < m → (vals zs ws m).getD k 0 = valK zs ws k := by
  intro m
  induction m with
  | zero => intro k h; omega
  | succ m ih =>
    intro k h
    rw [vals, List.getD_eq_getElem?_getD]
    by_cases hk : k < m
    · rw [List.getElem?_append_left (by rw [length_vals]; exact hk), ← List.getD_eq_getElem?_getD, ih k hk]
    · rw [List.getElem?_append_right (by rw [length_vals]; omega), length_vals, show k - m = 0 by omega, show k = m by omega]
      rfl
theorem pairs_bd (zs ws : List Int) : ∀ m, (∀ j, j < m → valK zs ws j ≤ 9223372036854775807) → ∀ f ∈ pairs zs ws m, f.2 ≤ 9223372036854775807 := by
  intro m
  induction m with
  | zero => intro _ f hf; simp [pairs] at hf
  | succ m ih =>
    intro h f hf
    rw [pairs] at hf
    rcases List.mem_append.1 hf with h1 | h1
    · exact ih (fun j hj => h j (by omega)) f h1
    · simp at h1; subst h1; exact h m (by omega)
theorem one_i64 (x : Int) : ∀ u ∈ [Value.int .i64 x], u.oneCell' = true := by intro u hu; simp at hu; subst hu; rfl
theorem two_i64 (x y : Int) : ∀ u ∈ [Value.int .i64 x, Value.int .i64 y], u.oneCell' = true := by intro u hu; simp at hu; rcases hu with rfl | rfl <;> rfl
theorem news1 (w : World) (x : Int) : ∀ j u, [Value.int .i64 x][j]? = some u → (w.alloc (.cells #[.int .i64 x] 3)).cell? ((⟨w.heap.size, 0, none⟩ : Addr).add j) = some u := by
  intro j u h
  match j, h with
  | 0, h => simp at h; subst h; simp [Addr.add]
theorem news2 (w : World) (x y : Int) : ∀ j u, [Value.int .i64 x, Value.int .i64 y][j]? = some u → (w.alloc (.cells #[.int .i64 x, .int .i64 y] 38)).cell? ((⟨w.heap.size, 0, none⟩ : Addr).add j) = some u := by
  intro j u h
  match j, h with
  | 0, h => simp at h; subst h; simp [Addr.add]
  | 1, h => simp at h; subst h; simp [Addr.add]

theorem news2' (w : World) (x y : Int) : ∀ j u, [Value.int .i64 x, Value.int .i64 y][j]? = some u → ((w.alloc (.cells #[.int .i64 x, .int .i64 y] 38)).alloc (.cells #[.int .i64 x, .int .i64 y] 38)).cell? ((⟨w.heap.size + 1, 0, none⟩ : Addr).add j) = some u := by
  intro j u h
  have := news2 (w.alloc (.cells #[.int .i64 x, .int .i64 y] 38)) x y j u h
  simpa using this

set_option maxRecDepth 100000 in
set_option maxHeartbeats 4000000 in
theorem back_walk (a0 : Option Addr) (m0 c0 : Nat) (fs : List (Int × Int)) (a1 : Option Addr) (n1 c1 : Nat) (zs : List Int) (a2 : Option Addr) (m2 c2 : Nat) (ws : List Int) (w : World) (hm0 : m0 ≤ 1048576) (hn1 : n1 ≤ 1048576) (hm2 : m2 ≤ 1048576)
    (hR0 : RdF w.heap.size w a0 m0 fs) (hR1 : Rd w.heap.size w a1 n1 zs) (hnil1 : a1 = none → c1 = 0) (hR2 : RdI w.heap.size w a2 m2 ws) (hnil2 : a2 = none → c2 = 0) :
    Calls Try.prog 4 #[.slice a0 m0 c0, .slice a1 n1 c1, .slice a2 m2 c2] w fun e w' => e = .returned (.bool true) ∧ Below w.heap.size w w' := by
  obtain ⟨i38, hi38, hz38, hs38, hb38⟩ := info_parts info38
  obtain ⟨i3, hi3, hz3, hs3, hb3⟩ := info_parts info3
  obtain ⟨hl0, hv0, h30⟩ := hR0
  go_enter Try.func4, Try.ntmps4
  go_wp2_with fail
  refine (awake_any w).mono ?_
  rintro e w1 ⟨rfl, hb1⟩
  go_wp2_with fail
  go_loopw [7, 8, 9, 10] (fun s7 s8 s9 i wt => ∃ (k : Nat) (F : List (Int × Int)), k ≤ m0 ∧ i = .int .i64 (k : Int) ∧ F.length = k ∧ okF F ∧ (∀ f ∈ F, f.2 ≤ 9223372036854775807) ∧
      Trio w.heap.size wt s7 s8 s9 k k k (flat F) ((F.map (·.1)).map (Value.int .i64)) ((F.map (·.2)).map (Value.int .i64)) ∧ Below w.heap.size w wt) (fun _ _ _ i _ => m0 - (intOf i).toNat)
  case atStart => exact ⟨0, [], Nat.zero_le _, rfl, rfl, (by intro f hf; cases hf), (by intro f hf; cases hf), ⟨World.ownsRow_nil _ _ _ _, World.ownsRow_nil _ _ _ _, World.ownsRow_nil _ _ _ _, (by intro g h; cases h), (by intro g h; cases h), (by intro g h; cases h)⟩, hb1⟩
  case round =>
    clear hb1
    obtain ⟨k, F, hk, rfl, hFl, hFo, hFb, hT, hbt⟩ := hrel
    by_cases hkm : k < m0
    · obtain ⟨b, off, rfl, hb, hc⟩ := h30.resolve_left (by omega)
      obtain ⟨x, hx⟩ : ∃ x, x = (fs.getD k (0, 0)).1 := ⟨_, rfl⟩
      obtain ⟨v, hv'⟩ : ∃ v, v = (fs.getD k (0, 0)).2 := ⟨_, rfl⟩
      obtain ⟨hcx, hcv⟩ := hc k hkm
      rw [← hx] at hcx
      rw [← hv'] at hcv
      have hcx' := (hbt.cell (p := ⟨b, off + k * 2, none⟩) (by exact hb)).trans hcx
      have hcv' := (hbt.cell (p := ⟨b, off + k * 2 + 1, none⟩) (by exact hb)).trans hcv
      have HT := hid hT
      have HFo := hid hFo
      have HFb := hid hFb
      have HFl := hid hFl
      clear hx hv' hcx hcv hc hT hFo hFb hFl hR1 hR2 hnil1 hnil2 hv0 h30
      go_wp2_with fail
      refine (fair_any x v _).mono ?_
      rintro e w2 ⟨X, V, rfl, hck, hVb, hb2⟩
      have hb2' : Below w.heap.size w w2 := hbt.trans (hb2.mono hbt.size)
      have HT2 := hid (((HT.out.below hb2).alloc (.cells #[.int .i64 X, .int .i64 V] 38)).alloc (.cells #[.int .i64 X, .int .i64 V] 38))
      have Hb2 := hid ((hb2'.alloc hb2'.size (.cells #[.int .i64 X, .int .i64 V] 38)).alloc (by have := hb2'.size; simp; omega) (.cells #[.int .i64 X, .int .i64 V] 38))
      have Hck := hid hck
      have HVb := hid hVb
      have hsz2 := hid hb2'.size
      have hne8 := own_lt HT.out.r8 hb2.size
      have hne7 := own_lt HT.out.r7 hb2.size
      have Hne8 := hid hne8
      have Hne7 := hid hne7
      clear HT hbt hb2 hb2' hcx' hcv' hck hVb hne7 hne8
      go_wp2_with (at_builtin; refine wpList_append_lies _ rfl (.tmp 35) (.tmp 37) 35 (by rfl) w.heap.size 38 i38 (.agg #[.int .i64 0, .int .i64 0]) 2 16 Try.underlying35 hi38 hz38 hs38 hb38 rfl (by decide) _ k (flat F) (by rfl) HT2.out.r7 ⟨w2.heap.size + 1, 0, none⟩ 1 1 [.int .i64 X, .int .i64 V] (by rfl) (by rfl) (by exact news2' w2 X V) (two_i64 X V) (by decide) (by unfold maxLen; omega) (by omega) (by have := hsz2.out; simp; omega) (w2.heap.size + 2) (by simp) ?_)
      intro g7 cap7 w3 ho7 hg7 hl7 _
      have HT3 := hid ((HT2.out.step7 hg7 ho7 (by simpa using hl7)).alloc (.cells #[.int .i64 X] 3))
      have Hb3 := Hb2.out.grown hg7 Hb2.out.size (fun q hq => (World.ownsRow.lt HT2.out.r7 q hq).1)
      have hcX : w3.cell? ⟨w2.heap.size, 0, none⟩ = some (.int .i64 X) := cell_apart hg7 (by simp) Hne7.out
      have hcV : w3.cell? ⟨w2.heap.size, 1, none⟩ = some (.int .i64 V) := cell_apart hg7 (by simp) Hne7.out
      have Hb3' := hid Hb3
      clear ho7 hg7 hl7 HT2 Hb2 Hb3 Hne7
      go_wp2_with (at_builtin; refine wpList_append_lies _ rfl (.tmp 39) (.tmp 42) 36 (by rfl) w.heap.size 3 i3 (.int .i64 0) 1 8 Try.underlying36 hi3 hz3 hs3 hb3 rfl (by decide) _ k ((F.map (·.1)).map (Value.int .i64)) (by rfl) HT3.out.r8 ⟨w3.heap.size, 0, none⟩ 1 1 [.int .i64 X] (by rfl) (by rfl) (by exact news1 w3 X) (one_i64 X) (by decide) (by unfold maxLen; omega) (by omega) (by have := Hb3'.out.size; simp; omega) (w3.heap.size + 1) (by simp) ?_)
      intro g8 cap8 w4 ho8 hg8 hl8 _
      have HT4 := hid ((HT3.out.step8 hg8 ho8 (by simpa using hl8)).alloc (.cells #[.int .i64 V] 3))
      have Hb4 := (Hb3'.out.alloc Hb3'.out.size (.cells #[.int .i64 X] 3)).grown hg8 (by have := Hb3'.out.size; simp; omega) (fun q hq => (World.ownsRow.lt HT3.out.r8 q hq).1)
      have hcV4 : w4.cell? ⟨w2.heap.size, 1, none⟩ = some (.int .i64 V) := cell_apart hg8 (by rw [World.cell?_alloc_past _ _ _ (by exact World.block_lt_of_cell? w3 ⟨w2.heap.size, 1, none⟩ hcV)]; exact hcV) Hne8.out
      have Hb4' := hid Hb4
      clear ho8 hg8 hl8 HT3 Hb3' Hb4 Hne8 hcV hcX
      go_wp2_with (at_builtin; refine wpList_append_lies _ rfl (.tmp 44) (.tmp 47) 36 (by rfl) w.heap.size 3 i3 (.int .i64 0) 1 8 Try.underlying36 hi3 hz3 hs3 hb3 rfl (by decide) _ k ((F.map (·.2)).map (Value.int .i64)) (by rfl) HT4.out.r9 ⟨w4.heap.size, 0, none⟩ 1 1 [.int .i64 V] (by rfl) (by rfl) (by exact news1 w4 V) (one_i64 V) (by decide) (by unfold maxLen; omega) (by omega) (by have := Hb4'.out.size; simp; omega) (w4.heap.size + 1) (by simp) ?_)
      intro g9 cap9 w5 ho9 hg9 hl9 _
      have HT5 := hid (HT4.out.step9 hg9 ho9 (by simpa using hl9))
      have Hb5 := (Hb4'.out.alloc Hb4'.out.size (.cells #[.int .i64 V] 3)).grown hg9 (by have := Hb4'.out.size; simp; omega) (fun q hq => (World.ownsRow.lt HT4.out.r9 q hq).1)
      clear ho9 hg9 hl9 HT4 Hb4' hcV4
      go_wp2
      go_roundw
      case rel =>
        refine ⟨k + 1, F ++ [(X, V)], by omega, by go_num, by simp [HFl.out], ?_, ?_, ?_, Hb5⟩
        · intro f hf
          rcases List.mem_append.1 hf with h | h
          · exact HFo.out f h
          · simp at h; subst h; exact Hck.out
        · intro f hf
          rcases List.mem_append.1 hf with h | h
          · exact HFb.out f h
          · simp at h; subst h; exact HVb.out
        · have h := HT5.out
          simpa [flat_snoc] using h
      case measure => simp [intOf]; omega
    · obtain ⟨a7, c7, rfl, _⟩ := owns_slice hT.r7
      obtain ⟨a8, c8, rfl, _⟩ := owns_slice hT.r8
      obtain ⟨a9, c9, rfl, _⟩ := owns_slice hT.r9
      have HP := hid (Pack_ok a7 k c7 F wr (by omega) (rdf_of_owns hT.r7 hFl hFo hFb) hFo)
      have HT := hid hT
      have HFo := hid hFo
      have HFb := hid hFb
      have HFl := hid hFl
      have hlen := okF_le hFo
      have hlen2 : (packZ F).length ≤ 8388608 := by omega
      have Hlen := hid hlen2
      have Hw0 := hid (rfl : (packZ F).length = (packZ F).length)
      clear hT hFo hFb hFl hlen hlen2 hl0 hv0 h30 Hw0
      go_wp2_with fail
      refine Calls.mono HP.out ?_
      rintro e w2 ⟨gp, rfl, hgp, hBp, hb2⟩
      have hb2' : Below w.heap.size w w2 := hbt.trans (hb2.mono hbt.size)
      have HT2 := hid (HT.out.below hb2)
      have hv : ∀ j, j < k → valK (packZ F) (F.map (·.1)) j ≤ 9223372036854775807 := fun j hj => by
        rw [valK_pack F HFo.out j (by rw [HFl.out]; exact hj)]
        exact HFb.out _ (by simp [show j < F.length by rw [HFl.out]; exact hj])
      have HU := hid (Unpack_ok (some ⟨gp, 0, none⟩) a8 (packZ F).length (packZ F).length k c8 (packZ F) (F.map (·.1)) w2 (by omega) (Nat.le_refl _) (Rd.of_blk hBp (isB_packZ F) hBp.lt) (rdi_of_owns HT2.out.r8) (okW_of_okF HFo.out) packZ_len hv)
      rw [show vals (packZ F) (F.map (·.1)) k = F.map (·.2) from by rw [vals_pack F HFo.out k (by rw [HFl.out]; exact Nat.le_refl _), List.take_of_length_le (by simp [HFl.out])]] at HU
      clear hbt hb2 HT HP hBp hv hgp
      generalize (packZ F).length = plen at *
      go_wp2_with fail
      refine Calls.mono HU.out ?_
      rintro e w3 ⟨gu, rfl, hgu, hBu, hb3⟩
      have hb3' : Below w.heap.size w w3 := hb2'.trans (hb3.mono hb2'.size)
      have HT3 := HT2.out.below hb3
      have hBR : RdI w3.heap.size w3 (some ⟨gu, 0, none⟩) k (F.map (·.2)) := by
        have h := RdI.of_blk hBu hBu.lt
        rw [show (F.map (·.2)).length = k from by simp [HFl.out]] at h
        exact h
      have HSI := hid (SameInts_eq w3.heap.size (some ⟨gu, 0, none⟩) a9 k k c9 (F.map (·.2)) w3 (Nat.le_refl _) (by omega) hBR (rdi_of_owns HT3.r9))
      clear hb2' hb3 HT2 HU hBu hgu HT3 hBR
      go_wp2_with fail
      refine (num_any 0 w3).mono ?_
      rintro e w3 ⟨rfl, rfl⟩
      go_wp2_with fail
      refine (num_any 0 w3).mono ?_
      rintro e w3 ⟨rfl, rfl⟩
      go_wp2_with fail
      refine Calls.mono HSI.out ?_
      rintro e w4 ⟨rfl, hb4⟩
      have hb4' : Below w.heap.size w w4 := hb3'.trans (hb4.mono hb3'.size)
      clear HSI hb4 hb3' HFo HFb HFl Hlen
      go_wp2_with fail
      refine (CopyBytes_any a1 n1 c1 zs w4 (by omega) hnil1 ((hR1.below hb4').mono hb4'.size)).mono ?_
      rintro e w5 ⟨g5, cap5, rfl, hg5, hO5, hb5⟩
      have hb5' : Below w.heap.size w w5 := hb4'.trans (hb5.mono hb4'.size)
      have hR2' : RdI w5.heap.size w5 a2 m2 ws := by
        obtain ⟨q1, q2⟩ := hR2.below hb5'
        exact ⟨q1, q2.imp id (fun ⟨b, off, e, h, c⟩ => ⟨b, off, e, Nat.lt_of_lt_of_le h hb5'.size, c⟩)⟩
      have HO5 := hid hO5
      clear hb4' hb5 hg5 hO5
      go_wp2_with fail
      refine (CopyInts_any a2 m2 c2 ws w5 (by omega) hnil2 hR2').mono ?_
      rintro e w6 ⟨g6, cap6, rfl, hg6, hO6, hb6⟩
      have hb6' : Below w.heap.size w w6 := hb5'.trans (hb6.mono hb5'.size)
      have hD : Rd w6.heap.size w6 (some ⟨g5, 0, none⟩) n1 zs := ((HO5.out.rd hR1.2.1).below hb6).mono hb6.size
      have hcap5 := HO5.out.cap
      have HR2 := hid hR2
      have HR1 := hid hR1
      clear hb5' hb6 hg6 hR2' HO5 hR2 hR1 hnil1 hnil2
      by_cases hgood : okW ws ∧ n1 = sumW ws ∧ ∀ j, j < m2 → valK zs ws j ≤ 9223372036854775807
      · obtain ⟨hok, hsum, hvs⟩ := hgood
        have HU := hid (Unpack_ok (some ⟨g5, 0, none⟩) (some ⟨g6, 0, none⟩) n1 cap5 m2 cap6 zs ws w6 (by omega) hcap5 hD hO6.rdi hok hsum hvs)
        have Hok := hid hok
        have Hsum := hid hsum
        have Hvs := hid hvs
        clear hD hO6 hok hsum hvs
        go_wp2_with fail
        refine Calls.mono HU.out ?_
        rintro e w7 ⟨gu, rfl, hgu, hBu, hb7⟩
        have hb7' : Below w.heap.size w w7 := hb6'.trans (hb7.mono hb6'.size)
        have HBu := hid hBu
        clear hb7 hb6' HU hBu hgu
        go_wp2_with fail
        refine (num_any 0 w7).mono ?_
        rintro e w7 ⟨rfl, rfl⟩
        go_wp2_with fail
        go_loopw [18, 19] (fun s18 i wt => ∃ k : Nat, k ≤ m2 ∧ i = .int .i64 (k : Int) ∧ wt.ownsRow w.heap.size 38 2 s18 k (flat (pairs zs ws k)) ∧ s18.ownBlock ≠ some gu ∧ Blk .i64 3 wt gu (vals zs ws m2) ∧ Below w.heap.size w wt) (fun _ i _ => m2 - (intOf i).toNat)
        case atStart => exact ⟨0, Nat.zero_le _, rfl, World.ownsRow_nil _ _ _ _, (by intro h; cases h), HBu.out, hb7'⟩
        case round =>
        clear HBu hb7'
        obtain ⟨k, hk, rfl, hO, hng, hB, hbt⟩ := hrel
        by_cases hkm : k < m2
        · obtain ⟨b, off, rfl, hb, hc⟩ := HR2.out.2.resolve_left (by omega)
          have cX := (hbt.cell (p := ⟨b, off + k, none⟩) (by exact hb)).trans (hc k hkm)
          have cV := hB.cell k (by rw [length_vals]; exact hkm)
          rw [show (vals zs ws m2).getD k 0 = valK zs ws k from vals_getD zs ws m2 k hkm] at cV
          have HO := hid (hO.alloc (.cells #[.int .i64 (ws.getD k 0), .int .i64 (valK zs ws k)] 38))
          have HB := hid hB
          have Hng := hid hng
          have Hsz := hid hbt.size
          have hk1 : (k : Int) < (m2 : Int) := by omega
          have Hneb := hid (fun e => absurd (World.ownsRow.lt hO b e).1 (by omega) : u18.ownBlock ≠ some b)
          have HcX : Hid ((wr.alloc (.cells #[.int .i64 (ws.getD k 0), .int .i64 (valK zs ws k)] 38)).drew.cell? ⟨b, off + k, none⟩ = some (.int .i64 (ws.getD k 0))) := (World.cell?_alloc_past (w := wr) _ b (off + k) (World.block_lt_of_cell? wr ⟨b, off + k, none⟩ cX)).trans cX
          have HcV : Hid ((wr.alloc (.cells #[.int .i64 (ws.getD k 0), .int .i64 (valK zs ws k)] 38)).drew.cell? ⟨gu, k, none⟩ = some (.int .i64 (valK zs ws k))) := (World.cell?_alloc_past (w := wr) _ gu k hB.lt).trans cV
          have Hbt := hid (hbt.alloc hbt.size (.cells #[.int .i64 (ws.getD k 0), .int .i64 (valK zs ws k)] 38)).drew
          have HBa := hid (hB.alloc (.cells #[.int .i64 (ws.getD k 0), .int .i64 (valK zs ws k)] 38)).drew
          clear hO hB hng hc hbt
          generalize hX : ws.getD k 0 = X at *
          generalize hV : valK zs ws k = V at *
          have HX := hid hX
          have HV := hid hV
          clear hX hV
          go_wp2_with fail
          go_region_held3 (fun w' => w'.cell? ⟨b, off + k, none⟩ = some (.int .i64 X) ∧ w'.cell? ⟨gu, k, none⟩ = some (.int .i64 V)) (first | (exact ⟨by assumption, by assumption⟩) | go_keep) ((refine step_append_lies _ (by rfl) _ _ _ (by rfl) w.heap.size 38 i38 (.agg #[.int .i64 0, .int .i64 0]) 2 16 Try.underlying35 hi38 hz38 hs38 hb38 rfl (by decide) _ k (flat (pairs zs ws k)) (by rfl) (by exact HO.out) ⟨wr.heap.size, 0, none⟩ 1 1 [.int .i64 X, .int .i64 V] (by rfl) (by rfl) (by exact news2 wr X V) (two_i64 X V) (by decide) (by unfold maxLen; omega) (by omega) (by have := Hsz.out; simp; omega) (wr.heap.size + 1) (by simp) ?_; intro g18 cap18 w8 ho hg hl _; have kX : w8.cell? ⟨b, off + k, none⟩ = some (.int .i64 X) := cell_apart hg HcX.out Hneb.out; have kV : w8.cell? ⟨gu, k, none⟩ = some (.int .i64 V) := cell_apart hg HcV.out Hng.out))
          all_goals
            have Hb8 := Hbt.out.grown hg (by have := Hbt.out.size; exact this) (fun q hq => (World.ownsRow.lt HO.out q hq).1)
            have HB8 := HBa.out.grown hg (Ne.symm Hng.out)
            have hgu : g18 ≠ gu := by
              rcases hl with h | h
              · intro e; exact Hng.out (Eq.trans h (by rw [e]))
              · intro e; have := HB.out.lt; omega
            go_wp2
            go_roundw
            case rel =>
              refine ⟨k + 1, by omega, by go_num, ?_, (by intro e; cases e; exact hgu rfl), HB8, Hb8⟩
              rw [pairs, HX.out, HV.out, flat_snoc]
              exact ho
            case measure => simp [intOf]; omega
        · have e : k = m2 := by omega
          subst e
          obtain ⟨q1, q2⟩ := pairs_ok HR1.out.2.1 Hok.out (by rw [HR1.out.1]; exact Hsum.out) k (by rw [HR2.out.1]; exact Nat.le_refl _)
          have t1 : ws.take k = ws := List.take_of_length_le (by rw [HR2.out.1]; exact Nat.le_refl _)
          have t2 : zs.take (sumW ws) = zs := List.take_of_length_le (by rw [HR1.out.1, Hsum.out]; exact Nat.le_refl _)
          rw [t1, t2] at q2
          clear t1 t2
          obtain ⟨a18, c18, rfl, _⟩ := owns_slice hO
          have hpb : ∀ f ∈ pairs zs ws k, f.2 ≤ 9223372036854775807 := pairs_bd zs ws k Hvs.out
          have HP := hid (Pack_ok a18 k c18 (pairs zs ws k) wr (by omega) (rdf_of_owns hO (length_pairs _ _ _) q1 hpb) q1)
          rw [q2, HR1.out.1] at HP
          clear q1 q2 hpb hO hB hng
          go_wp2_with fail
          refine Calls.mono HP.out ?_
          rintro e w9 ⟨g9, rfl, hg9, hB9, hb9⟩
          have hb9' : Below w.heap.size w w9 := hbt.trans (hb9.mono hbt.size)
          have HSB := hid (SameBytes_eq w9.heap.size (some ⟨g9, 0, none⟩) a1 n1 n1 n1 c1 zs w9 (Rd.of_blk' hB9 HR1.out.2.1 HR1.out.1) ((HR1.out.below hb9').mono hb9'.size))
          clear hb9 hB9 hbt HP hg9
          go_wp2_with fail
          refine (num_any 0 w9).mono ?_
          rintro e w9 ⟨rfl, rfl⟩
          go_wp2_with fail
          refine Calls.mono HSB.out ?_
          rintro e w9 ⟨rfl, rfl⟩
          go_wp2
          go_ret
          exact ⟨rfl, hb9'⟩
      · have HE : Hid (Calls Try.prog 18 #[.slice (some ⟨g5, 0, none⟩) n1 cap5, .slice (some ⟨g6, 0, none⟩) m2 cap6] w6 fun e w' => ∃ E : Int, E ≠ 0 ∧ e = .returned (.tuple #[.slice none 0 0, .int .i64 E]) ∧ Below w6.heap.size w6 w') := by
          show Calls _ _ _ _ _
          by_cases h1 : okW ws
          · by_cases h2 : n1 = sumW ws
            · have h3 : ∃ j, j < m2 ∧ 9223372036854775807 < valK zs ws j := Classical.byContradiction fun hno => hgood ⟨h1, h2, fun j hj => Int.not_lt.1 fun hlt => hno ⟨j, hj, hlt⟩⟩
              exact (Unpack_value _ _ n1 cap5 m2 cap6 zs ws w6 (by omega) hcap5 hD hO6.rdi h1 h2 h3).mono fun e w' ⟨he, hb⟩ => ⟨11, by decide, he, hb⟩
            · exact (Unpack_size _ _ n1 cap5 m2 cap6 ws w6 (by omega) hO6.rdi h1 h2).mono fun e w' ⟨he, hb⟩ => ⟨12, by decide, he, by rw [hb]; exact Below.refl _ _⟩
          · exact (Unpack_width _ _ n1 cap5 m2 cap6 ws w6 (by omega) hO6.rdi h1).mono fun e w' ⟨he, hb⟩ => ⟨10, by decide, he, by rw [hb]; exact Below.refl _ _⟩
        clear hD hO6 hgood
        go_wp2_with fail
        refine Calls.mono HE.out ?_
        rintro e w7 ⟨E, hE, rfl, hb7⟩
        have hb7' : Below w.heap.size w w7 := hb6'.trans (hb7.mono hb6'.size)
        have hE0 : (E != 0) = true := by simpa using hE
        clear hb7 hb6' hE HE
        go_wp2_with fail
        refine (num_any E w7).mono ?_
        rintro e w7 ⟨rfl, rfl⟩
        go_wp2
        go_ret
        exact ⟨rfl, hb7'⟩

end Go.Proofs.Yteaebdonnicbkaa
