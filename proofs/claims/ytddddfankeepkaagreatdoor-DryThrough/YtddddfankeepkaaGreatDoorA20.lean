import Derived.Test.YtddddfankeepkaaGreatDoorA19
import Derived.Lib.ConvBytes
import Derived.Lib.SlBytesRow
import Derived.Deep.QuietTactic
import Derived.BigQuiet
/-
  free: a name that no volume has.
-/
namespace Go.Proofs.YtddddfankeepkaaGreatDoor
open Go.RowKit

def frL (i : Nat) : List Int := [122, 97 + (i / 26 : Nat), 97 + (i % 26 : Nat)]
def frN (i : Nat) : ByteArray := strOfNums (frL i)
theorem frL_isB {i : Nat} (h : i < 65) : Pl.isB (frL i) := by
  intro z hz
  unfold frL at hz
  simp only [List.mem_cons, List.not_mem_nil, or_false] at hz
  rcases hz with rfl | rfl | rfl <;> omega
theorem nums_str (l : List Int) (hb : Pl.isB l) : nums (strOfNums l) = l := by
  unfold nums
  refine List.ext_getElem (by rw [List.length_map]; exact str_size l) fun i h1 h2 => ?_
  have := str_get l hb i h2 (by rw [str_size]; exact h2)
  rw [List.getD_eq_getElem?_getD, List.getElem?_eq_getElem h2] at this
  rw [List.getElem_map]
  exact this
theorem frN_ok {i : Nat} (h : i < 65) : nmB (frN i) = true ∧ (frN i).size ≤ 16777216 := by
  refine ⟨?_, by unfold frN; rw [str_size]; unfold frL; simp⟩
  unfold nmB frN
  rw [nums_str _ (frL_isB h)]
  unfold nmd frL isSign isLow
  have a : i / 26 ≤ 2 := by omega
  have b : i % 26 ≤ 25 := by omega
  simp
  omega
theorem frN_inj {i j : Nat} (hi : i < 65) (hj : j < 65) (h : frN i = frN j) : i = j := by
  have e : frL i = frL j := by rw [← nums_str _ (frL_isB hi), ← nums_str _ (frL_isB hj)]; exact congrArg nums h
  unfold frL at e
  simp only [List.cons.injEq, true_and, and_true] at e
  omega
theorem conv_str {B : Nat} {w : World} {a : Option Addr} {n : Nat} {zs : List Int} (h : Rd B w a n zs) (c : Nat) : (convert 40 9 (.slice a n c)).run Tryz.prog w = .ok (.string (strOfNums zs)) w := by
  obtain ⟨h1, h2, h3⟩ := h
  rcases h3 with rfl | ⟨b, off, rfl, hlt, hc⟩
  · obtain rfl : zs = [] := List.length_eq_zero_iff.1 h1
    cases a with
    | none => exact run_convert_bytes_nil w 40 5 Tryz.underlying40 Tryz.underlying5 0 c 9 Tryz.underlying9
    | some ad =>
      have hl : (loadCells ad 0).run Tryz.prog w = .ok ([].map (Value.int .u8)).toArray w := by simpa using run_loadCells_list (P := Tryz.prog) w ad [] (by simp)
      rw [run_convert_bytes_string w 40 9 5 _ 0 c Tryz.underlying40 Tryz.underlying5 Tryz.underlying9, run_bytesToString w ad 0 c [] hl]
      rfl
  · exact run_convert_bytes_arg w 40 5 Tryz.underlying40 Tryz.underlying5 b off n c zs h1 hc 9 Tryz.underlying9
theorem pig {α : Type} : ∀ (n : Nat) (l : List α) (f : Nat → α), (∀ i, i < n → f i ∈ l) → (∀ i j, i < n → j < n → f i = f j → i = j) → n ≤ l.length
  | 0, _, _, _, _ => Nat.zero_le _
  | n + 1, l, f, h, hi => by
    obtain ⟨s, t, rfl⟩ := List.append_of_mem (h n (by omega))
    have := pig n (s ++ t) f (fun i hin => by
      have := h i (by omega)
      simp only [List.mem_append, List.mem_cons] at *
      rcases this with q | q | q
      · exact .inl q
      · exact absurd (hi i n (by omega) (by omega) q) (by omega)
      · exact .inr q) (fun i j a b => hi i j (by omega) (by omega))
    simp only [List.length_append, List.length_cons] at *
    omega
def FrQ (x : VW) (w : World) (e : Ending) (w' : World) : Prop := (∃ s, e = .returned (.string s) ∧ nmB s = true ∧ s.size ≤ 16777216 ∧ ∀ u ∈ x.vs, u.nm ≠ s) ∧ Below w.heap.size w w'
set_option maxRecDepth 100000 in
set_option maxHeartbeats 4000000 in
theorem free_any (x : VW) (a : Option Addr) (c0 : Nat) (w : World) (hR : RdV w.heap.size w a x.vs) (hl : x.vs.length ≤ 64) :
    Calls Tryz.prog 36 #[viewA x a c0] w fun e w' => FrQ x w e w' := by
  obtain ⟨P, hP⟩ : ∃ P, P = w.heap.size := ⟨_, rfl⟩
  obtain ⟨W1, hW1⟩ : ∃ W1, W1 = w.alloc (.cells #[.int .i64 x.cp, .int .i64 x.fr, .int .i64 x.nx, .slice a x.vs.length c0] 24) := ⟨_, rfl⟩
  have b1 : Below w.heap.size w W1 := by rw [hW1]; exact below1 _ _
  have hV : VwB W1 P x (.slice a x.vs.length c0) := by rw [hW1, hP]; exact heap_new _ _
  have hR1 := (hR.below b1).mono b1.size
  have HP := hid hP.symm
  have HW1 := hid hW1
  have HV := hid hV
  have HR1 := hid hR1
  have HB1 := hid b1
  have HPG : Hid ¬ (∀ i, i < 65 → ∃ u ∈ x.vs, u.nm = frN i) := hid (fun h => by
    have := pig 65 (x.vs.map (fun u => u.nm)) frN (fun i hi => by
      obtain ⟨u, hu, e⟩ := h i hi
      exact List.mem_map.2 ⟨u, hu, e⟩) (fun i j hi hj e => frN_inj hi hj e)
    rw [List.length_map] at this
    omega)
  obtain ⟨n, hn⟩ : ∃ n, n = x.vs.length := ⟨_, rfl⟩
  have HN := hid hn
  have hn64 : n ≤ 64 := by omega
  dsimp only [viewA]
  rw [← hn]
  rw [← hn] at hW1
  have HW2 := hid hW1
  clear hP hW1 hV hR hR1 b1 hn hl HW1
  go_enter Tryz.func36, Tryz.ntmps36
  go_wp2_with fail
  rw [← HW2.out, HP.out]
  go_loopw [3] (fun iv wr => ∃ k : Nat, k ≤ 65 ∧ iv = .int .i64 (k : Int) ∧ (∀ i, i < k → ∃ u ∈ x.vs, u.nm = frN i) ∧ Below W1.heap.size W1 wr) (fun iv _ => 65 - (intOf iv).toNat)
  case atStart => exact ⟨0, Nat.zero_le _, rfl, fun i h => by omega, Below.refl _ _⟩
  case round =>
    obtain ⟨k, hk, rfl, hall, hb⟩ := hrel
    by_cases hlt : k < 65
    · obtain ⟨W, hWr⟩ : ∃ W, W = wr := ⟨wr, rfl⟩
      subst hWr
      have hk1 : (k : Int) < 65 := by omega
      obtain ⟨q, hq⟩ : ∃ q : Int, q = ((k / 26 : Nat) : Int) := ⟨_, rfl⟩
      obtain ⟨r, hr⟩ : ∃ r : Int, r = ((k % 26 : Nat) : Int) := ⟨_, rfl⟩
      have q1 : (k : Int).tdiv 26 = q := by rw [hq]; rfl
      have q2 : (k : Int).tmod 26 = r := by rw [hr]; rfl
      have hq0 : 0 ≤ q := by omega
      have hq3 : q ≤ 2 := by omega
      have hr0 : 0 ≤ r := by omega
      have hr3 : r ≤ 25 := by omega
      obtain ⟨U, hU⟩ : ∃ U, U = W.alloc (.cells #[.int .u8 122, .int .u8 (97 + q), .int .u8 (97 + r)] 5) := ⟨_, rfl⟩
      have bU : Below W.heap.size W U := by rw [hU]; exact below1 _ _
      have hUb : U.heap[W.heap.size]? = some (.cells #[.int .u8 122, .int .u8 (97 + q), .int .u8 (97 + r)] 5 (0, 0)) := by rw [hU]; exact heap_new _ _
      have hRd : Rd U.heap.size U (some ⟨W.heap.size, 0, none⟩) 3 (frL k) := by
        unfold frL
        rw [← hq, ← hr]
        refine ⟨rfl, by have := frL_isB hlt; unfold frL at this; rw [← hq, ← hr] at this; exact this, .inr ⟨_, 0, rfl, by rw [hU]; simp, fun t ht => ?_⟩⟩
        rcases (show t = 0 ∨ t = 1 ∨ t = 2 by omega) with rfl | rfl | rfl <;> simp [World.cell?, hUb]
      have hcv : Sem.run Tryz.prog (convert 40 9 (.slice (some ⟨W.heap.size, 0, none⟩) 3 3)) U = .ok (.string (frN k)) U := conv_str hRd 3
      rw [hU] at hcv
      have HK := frN_ok hlt
      have HOK := hid HK
      have HALL := hid hall
      have HBU : Hid (Below W1.heap.size W1 U) := hid (hb.trans (bU.mono hb.size))
      have HFIN : Hid (∀ m, m = n → ∀ W9, (∀ j (hj : j < x.vs.length), j < m → x.vs[j].nm ≠ frN k) → Below W1.heap.size W1 W9 → FrQ x w (.returned (.string (frN k))) W9) := hid (fun m hm W9 hne h9 => ⟨⟨_, rfl, HK.1, HK.2, fun u hu => by
        obtain ⟨j, hj, rfl⟩ := List.getElem_of_mem hu
        exact hne j hj (by have := HN.out; omega)⟩, HB1.out.trans (h9.mono HB1.out.size)⟩)
      have HU := hid hU
      have HQR := hid (And.intro hq hr)
      clear hall hb bU hUb hRd HK hU hq hr
      generalize hse : frN k = s at *
      have HSK : Hid ((∃ u ∈ x.vs, u.nm = s) → ∃ u ∈ x.vs, u.nm = frN k) := hid (fun h => by rw [hse]; exact h)
      clear hse
      go_wp2_with fail
      rw [← HU.out]
      clear HQR hcv HU
      obtain ⟨U', hU'⟩ : ∃ U', U' = U := ⟨U, rfl⟩
      have HU0 : Hid (∃ m, U = U.drewN m) := hid ⟨0, rfl⟩
      have hUV := HV.out.keep (HBU.out.block P HV.out.lt)
      obtain ⟨⟨p0, p1, p2, p3⟩, _⟩ := hUV.cs
      clear hU' U'
      have HRu := hid (HR1.out.below HBU.out)
      have HP3 : Hid (∀ m, (U.drewN m).cell? ⟨P, 3, none⟩ = some (.slice a n c0)) := hid (fun m => by rw [HN.out]; exact p3)
      clear p0 p1 p2 p3 hUV
      clear q1 q2 hq0 hq3 hr0 hr3
      have HKL := hid hlt
      clear hk hk1 hlt
      go_loopw [5, 6] (fun tv jv wr2 => ∃ (j : Nat) (t : Bool), j ≤ n ∧ jv = .int .i64 (j : Int) ∧ tv = .bool t ∧ (t = true → ∃ u ∈ x.vs, u.nm = s) ∧ (t = false → ∀ i (hi : i < x.vs.length), i < j → x.vs[i].nm ≠ s) ∧ ∃ m, wr2 = U.drewN m) (fun _ jv _ => n - (intOf jv).toNat)
      case atStart => exact ⟨0, false, Nat.zero_le _, rfl, rfl, fun h => (Bool.noConfusion h), fun _ i hi h => by omega, HU0.out⟩
      case round =>
        obtain ⟨j, t, hj, rfl, rfl, ht, hf, hm⟩ := hrel
        obtain ⟨m2, rfl⟩ := hm
        have p3 := HP3.out m2
        by_cases hjn : j < n
        · have hj1 : (j : Int) < (n : Int) := by omega
          have hjl : j < x.vs.length := by have := HN.out; omega
          have HJ := hid hjl
          have HT := hid ht
          have HF := hid hf
          clear ht hf
          cases t
          · obtain ⟨g, off, rfl, hgl, hc⟩ := (HRu.out).resolve_left (fun e => by rw [e] at hjl; simp at hjl)
            obtain ⟨ma, mc, ⟨c0', c1, c2, c3, c4, c5, c6⟩, hRm, _⟩ := hc j hjl
            have d0 : (U.drewN m2).cell? ⟨g, off + j * 7, none⟩ = some (.string x.vs[j].nm) := c0'
            obtain ⟨y, hy⟩ : ∃ y, y = x.vs[j].nm := ⟨_, rfl⟩
            rw [← hy] at d0
            have HY := hid hy
            clear hc hgl c0' c1 c2 c3 c4 c5 c6 hRm hjl hy HRu HP3
            by_cases e : y.toList = s.toList
            · have eb : (y.toList == s.toList) = true := by simpa using e
              have HE := hid (str_toList.1 e)
              clear e
              go_wp2
              go_roundw
              case rel => exact ⟨j + 1, true, by omega, by go_num, rfl, fun _ => ⟨_, List.getElem_mem HJ.out, HY.out.symm.trans HE.out⟩, fun h => (Bool.noConfusion h), ⟨_, rfl⟩⟩
              case measure => simp [intOf]; omega
            · have eb : (y.toList == s.toList) = false := by simpa using e
              have HE := hid (fun q => e (str_toList.2 q))
              clear e
              go_wp2
              go_roundw
              case rel => exact ⟨j + 1, false, by omega, by go_num, rfl, fun h => (Bool.noConfusion h), fun _ i hi h => by
                by_cases e : i = j
                · subst e; exact fun q => HE.out (HY.out.trans q)
                · exact HF.out (by simp) i hi (by omega), ⟨_, rfl⟩⟩
              case measure => simp [intOf]; omega
          · clear HRu HP3 hjl
            go_wp2
            go_roundw
            case rel => exact ⟨j + 1, true, by omega, by go_num, rfl, fun _ => HT.out (by simp), fun h => (Bool.noConfusion h), ⟨_, rfl⟩⟩
            case measure => simp [intOf]; omega
        · have ejn : j = n := by omega
          have hj1 : ¬ (j : Int) < (n : Int) := by omega
          have HJN := hid ejn
          have HT := hid ht
          have HF := hid hf
          clear ht hf ejn hj hjn
          cases t
          · go_wp2
            go_ret
            exact HFIN.out j HJN.out _ (fun i hi h => HF.out (by simp) i hi h) (HBU.out.trans (below_drewN _ _ _))
          · have hk1 : (k : Int) < 65 := by have := HKL.out; omega
            go_wp2
            go_roundw
            case rel => exact ⟨k + 1, by have := HKL.out; omega, by go_num, fun i hi => by
              by_cases e : i = k
              · subst e
                exact HSK.out (HT.out (by simp))
              · exact HALL.out i (by omega), HBU.out.trans (below_drewN _ _ _)⟩
            case measure => have := HKL.out; simp [intOf]; omega
    · have ek : k = 65 := by omega
      subst ek
      exact absurd hall HPG.out
end Go.Proofs.YtddddfankeepkaaGreatDoor
