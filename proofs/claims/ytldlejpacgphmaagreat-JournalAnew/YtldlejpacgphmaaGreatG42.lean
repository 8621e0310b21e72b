import Derived.Test.YtldlejpacgphmaaGreatG41
import Derived.Test.YtldlejpacgphmaaGreatG24
namespace Go.Proofs.YtldlejpacgphmaaGreat
open Go.RowKit
def Half (d0 : Pd) (nb fr bl : Nat) (bz hz : List Int) (P : Nat → List Int → Prop) : Prop :=
 ∀ u : Nat → List Int, (∀ x, x < nb → P x (u x)) → (∀ x, x < nb → d0.poss x (u x)) ∨ u fr = bz ∨ (u fr = hz ∧ ∀ m, m < bl - 1 → u (fr + 1 + m) = bz)
theorem Half.wiped {d0 : Pd} {nb fr bl : Nat} {bz hz : List Int} {P : Nat → List Int → Prop} (hlt : fr < nb) (h : ∀ v, P fr v → v = bz) : Half d0 nb fr bl bz hz P := fun _ hu => .inr (.inl (h _ (hu fr hlt)))
theorem Half.old {d0 : Pd} {nb fr bl : Nat} {bz hz : List Int} {P : Nat → List Int → Prop} (h : ∀ x v, P x v → d0.poss x v ∨ (x = fr ∧ v = bz)) : Half d0 nb fr bl bz hz P := fun u hu => by
 by_cases hb : u fr = bz
 ·exact .inr (.inl hb)
 ·refine .inl (fun x hx => ?_)
  rcases h x (u x) (hu x hx) with q | ⟨q1, q2⟩
  ·exact q
  ·rw [q1] at q2
   exact absurd q2 hb
theorem Half.new {d0 : Pd} {nb fr bl : Nat} {bz hz : List Int} {P : Nat → List Int → Prop} (hfit : fr + bl ≤ nb) (hbl : 1 ≤ bl) (h : ∀ v, P fr v → v = bz ∨ v = hz) (hm : ∀ m, m < bl - 1 → ∀ v, P (fr + 1 + m) v → v = bz) : Half d0 nb fr bl bz hz P := fun u hu => by
 rcases h (u fr) (hu fr (by omega)) with q | q
 ·exact .inr (.inl q)
 ·exact .inr (.inr ⟨q, fun m hm' => hm m hm' _ (hu _ (by omega))⟩)
theorem half_step {nb fr bl : Nat} {bz hz : List Int} {d : Pd} (hfit : fr + bl ≤ nb) (hbl : 1 ≤ bl) (okb : ∀ x, x < nb → (Cmd.wr x bz).Ok nb) (okh : (Cmd.wr fr hz).Ok nb) :
  Step nb (Half d nb fr bl bz hz) (fun d' => d' = d) ([Cmd.wr fr bz] ++ [.fl] ++ ((List.range (bl - 1)).map fun i => Cmd.wr (fr + 1 + i) bz) ++ [.fl] ++ [.wr fr hz] ++ [.fl]) (fun d' => (∀ x v, d'.poss x v → v = d'.read x) ∧ d'.read fr = hz ∧ ∀ m, m < bl - 1 → d'.read (fr + 1 + m) = bz) := by
 have hlt : fr < nb := by omega
 have s1 : Step nb (Half d nb fr bl bz hz) (fun d' => d' = d) [Cmd.wr fr bz] (fun d' => (∀ x v, d'.poss x v → d.poss x v ∨ (x = fr ∧ v = bz)) ∧ d'.read fr = bz) := by
  refine Step.one (okb fr hlt) (fun d' _ e => ?_) (fun d' _ e hc => ⟨fun x v hv => ?_, ?_⟩) (fun d' _ h => Half.old h.1)
  ·subst e
   exact fun u hu => .inl hu
  ·subst e
   exact (Pd.poss_wr hc x v).1 hv
  ·rw [Pd.read_wr hc, if_pos rfl]
 have s2 : Step nb (Half d nb fr bl bz hz) (fun d' => (∀ x v, d'.poss x v → d.poss x v ∨ (x = fr ∧ v = bz)) ∧ d'.read fr = bz) [Cmd.fl] (fun d' => ∀ v, d'.poss fr v → v = bz) := by
  refine Step.one trivial (fun d' _ h => Half.old h.1) (fun d' hfd h hc v hv => ?_) (fun d' _ h => Half.wiped hlt h)
  rw [(Pd.poss_fl hfd hc fr v).1 hv]
  exact h.2
 have s3 : Step nb (Half d nb fr bl bz hz) (fun d' => ∀ v, d'.poss fr v → v = bz) ((List.range (bl - 1)).map fun i => Cmd.wr (fr + 1 + i) bz) (fun d' => (∀ v, d'.poss fr v → v = bz) ∧ ∀ m, m < bl - 1 → d'.read (fr + 1 + m) = bz) := by
  have hwl : ((List.range (bl - 1)).map fun i => Cmd.wr (fr + 1 + i) bz).length = bl - 1 := by simp
  refine Step.mono (Step.each (I := fun j d' => (∀ v, d'.poss fr v → v = bz) ∧ ∀ m, m < j → d'.read (fr + 1 + m) = bz) (fun _ d' _ h => Half.wiped hlt h.1) (fun k c hk => ?_)) (fun d' h => ⟨h, fun m hm => by omega⟩) (fun d' h => ⟨h.1, fun m hm => h.2 m (by rw [hwl]; exact hm)⟩)
  have hkl : k < bl - 1 := by have := (List.getElem?_eq_some_iff.1 hk).1; omega
  rw [List.getElem?_map, List.getElem?_range hkl] at hk
  simp only [Option.map_some, Option.some.injEq] at hk
  subst hk
  refine ⟨okb _ (by omega), fun d' _ h hc => ⟨fun v hv => ?_, fun m hm => ?_⟩⟩
  ·rcases (Pd.poss_wr hc fr v).1 hv with q | q
   ·exact h.1 v q
   ·omega
  ·rw [Pd.read_wr hc]
   by_cases e : fr + 1 + k = fr + 1 + m
   ·rw [if_pos e]
   ·rw [if_neg e]
    exact h.2 m (by omega)
 have s4 : Step nb (Half d nb fr bl bz hz) (fun d' => (∀ v, d'.poss fr v → v = bz) ∧ ∀ m, m < bl - 1 → d'.read (fr + 1 + m) = bz) [Cmd.fl] (fun d' => (∀ x v, d'.poss x v → v = d'.read x) ∧ d'.read fr = bz ∧ ∀ m, m < bl - 1 → d'.read (fr + 1 + m) = bz) := by
  refine Step.one trivial (fun d' _ h => Half.wiped hlt h.1) (fun d' hfd h hc => ⟨fun x v hv => ?_, ?_, fun m hm => ?_⟩) (fun d' _ h => Half.wiped hlt (fun v hv => (h.1 fr v hv).trans h.2.1))
  ·rw [(Pd.poss_fl hfd hc x v).1 hv, Pd.read_fl hfd hc]
  ·rw [Pd.read_fl hfd hc]
   exact h.1 _ (d'.poss_read fr)
  ·rw [Pd.read_fl hfd hc]
   exact h.2 m hm
 have s5 : Step nb (Half d nb fr bl bz hz) (fun d' => (∀ x v, d'.poss x v → v = d'.read x) ∧ d'.read fr = bz ∧ ∀ m, m < bl - 1 → d'.read (fr + 1 + m) = bz) [Cmd.wr fr hz] (fun d' => ((∀ v, d'.poss fr v → v = bz ∨ v = hz) ∧ ∀ m, m < bl - 1 → ∀ v, d'.poss (fr + 1 + m) v → v = bz) ∧ d'.read fr = hz ∧ ∀ m, m < bl - 1 → d'.read (fr + 1 + m) = bz) := by
  refine Step.one okh (fun d' _ h => Half.wiped hlt (fun v hv => (h.1 fr v hv).trans h.2.1)) (fun d' _ h hc => ⟨⟨fun v hv => ?_, fun m hm v hv => ?_⟩, ?_, fun m hm => ?_⟩) (fun d' _ h => Half.new hfit hbl h.1.1 h.1.2)
  ·rcases (Pd.poss_wr hc fr v).1 hv with q | q
   ·exact .inl ((h.1 fr v q).trans h.2.1)
   ·exact .inr q.2
  ·rcases (Pd.poss_wr hc _ v).1 hv with q | q
   ·exact (h.1 _ v q).trans (h.2.2 m hm)
   ·omega
  ·rw [Pd.read_wr hc, if_pos rfl]
  ·rw [Pd.read_wr hc, if_neg (by omega)]
   exact h.2.2 m hm
 have s6 : Step nb (Half d nb fr bl bz hz) (fun d' => ((∀ v, d'.poss fr v → v = bz ∨ v = hz) ∧ ∀ m, m < bl - 1 → ∀ v, d'.poss (fr + 1 + m) v → v = bz) ∧ d'.read fr = hz ∧ ∀ m, m < bl - 1 → d'.read (fr + 1 + m) = bz) [Cmd.fl] (fun d' => (∀ x v, d'.poss x v → v = d'.read x) ∧ d'.read fr = hz ∧ ∀ m, m < bl - 1 → d'.read (fr + 1 + m) = bz) := by
  refine Step.one trivial (fun d' _ h => Half.new hfit hbl h.1.1 h.1.2) (fun d' hfd h hc => ⟨fun x v hv => ?_, ?_, fun m hm => ?_⟩) (fun d' _ h => Half.new hfit hbl (fun v hv => .inr ((h.1 fr v hv).trans h.2.1)) (fun m hm v hv => (h.1 _ v hv).trans (h.2.2 m hm)))
  ·rw [(Pd.poss_fl hfd hc x v).1 hv, Pd.read_fl hfd hc]
  ·rw [Pd.read_fl hfd hc]; exact h.2.1
  ·rw [Pd.read_fl hfd hc]; exact h.2.2 m hm
 exact ((((s1.seq s2).seq s3).seq s4).seq s5).seq s6
theorem format_half {nb fr bl : Nat} {d : Pd} (hfit : fr + bl ≤ nb) (hbl : 1 ≤ bl) (hf : d.Fits nb) : Half d nb fr bl (blankZ fr bl) (headZ fr bl 1 0) (d.runs (formatCmds fr bl)).2.poss := by
 have key := half_step (d := d) (bz := blankZ fr bl) (hz := headZ fr bl 1 0) hfit hbl (fun x hx => ok_blank hx) (ok_head (by omega))
 have e : formatCmds fr bl = [Cmd.wr fr (blankZ fr bl)] ++ [.fl] ++ ((List.range (bl - 1)).map fun i => Cmd.wr (fr + 1 + i) (blankZ fr bl)) ++ [.fl] ++ [.wr fr (headZ fr bl 1 0)] ++ [.fl] := by
  unfold formatCmds
  have w1 : wipes fr bl fr 1 = [Cmd.wr fr (blankZ fr bl)] := by simp [wipes]
  rw [w1]
  rfl
 rw [e]
 exact (key d hf rfl).1
theorem fresh_on {nb fr bl : Nat} {I : List Int} (hbl : 1 ≤ bl) (hh : imgB I fr = headZ fr bl 1 0) (hb : ∀ m, m < bl - 1 → imgB I (fr + 1 + m) = blankZ fr bl) : On ⟨I, [], -1, false⟩ (beginS noS) nb fr bl 0 (imgB I) [] := by
 have hp : ∀ x v, (⟨I, [], -1, false⟩ : Pd).poss x v → v = imgB I x := fun x v hv => by
  rcases hv with q | q
  ·exact q
  ·cases q
 have hm : Nm ⟨I, [], -1, false⟩ (beginS noS) nb fr bl 0 (imgB I) [] 0 0 0 (contT (imgB I) []) := by
  refine ⟨⟨Hd.empty (by decide) (by decide) hbl (fun i hi v hv => ?_) (fun x hx v hv => ?_), fun v hv => ?_, fun n _ n2 => ?_⟩, fun i r hr => by simp [wantsL] at hr, fun x hx v hv => ?_, by decide, rfl, rfl, rfl⟩
  ·rw [hp _ v hv, hb i hi]
   exact oldAt_blank _ _ _
  ·rw [hp x v hv]
  ·rw [hp fr v hv]; exact hh
  ·have : n = 0 := by simpa using n2
   subst this
   exact ⟨Nat.le_refl _, Nat.le_refl _, fun x hx => rfl⟩
  ·exact hp x v hv
 exact ⟨⟨0, imgB I, [], 0, hm⟩, rfl, rfl, Nat.zero_le _⟩
theorem headAt_other {fr bl : Nat} {zs : List Int} {k l : Int} {b : List Int} (h : unZ zs = some (k, l, b)) (hk : k ≠ 2) : headAt fr bl zs = none := by
 unfold headAt
 rw [h]
 simp [hk]
theorem headAt_blank (fr bl : Nat) : headAt fr bl (blankZ fr bl) = none := headAt_other (unZ_blank fr bl) (by decide)
end Go.Proofs.YtldlejpacgphmaaGreat
namespace Go.Proofs.YtldlejpacgphmaaGreat
open Go.RowKit Go.Deep
set_option maxRecDepth 100000 in
set_option maxHeartbeats 4000000 in
theorem over_any {w : World} {ib ic nb room : Nat} {I : List Int} (hI : Own w ib (512 * nb) ic I) (hIb : Pl.isB I) (n1 : 1 ≤ nb) (hnb : nb ≤ 524288) (r1 : 1 ≤ room) (r2 : room ≤ 4096) (fr bl : Int) :
  Calls Tryz.prog 77 #[.slice (some ⟨ib, 0, none⟩) (512 * nb) ic, .int .i64 fr, .int .i64 bl, .int .i64 (room : Int)] w fun e w' => ∃ jv code, e = .returned (.tuple #[.pointer jv, .int .i64 code]) ∧ Below w.heap.size w w' ∧ ∃ (w5 : World) (c p : Nat) (Z : Nat → Prop), w.heap.size ≤ w5.heap.size ∧ (∀ k, Z k → w.heap.size ≤ k ∧ k < w5.heap.size) ∧ (⟨I, [], -1, false⟩ : Pd).Fits nb ∧ OpenP Z w5 c p room nb 0 ⟨I, [], -1, false⟩ fr bl (.returned (.tuple #[.pointer jv, .int .i64 code])) w' := by
 obtain ⟨PO, hPO⟩ : ∃ PO : Ending → World → Prop, PO = fun e w' => ∃ jv code, e = .returned (.tuple #[.pointer jv, .int .i64 code]) ∧ Below w.heap.size w w' ∧ ∃ (w5 : World) (c p : Nat) (Z : Nat → Prop), w.heap.size ≤ w5.heap.size ∧ (∀ k, Z k → w.heap.size ≤ k ∧ k < w5.heap.size) ∧ (⟨I, [], -1, false⟩ : Pd).Fits nb ∧ OpenP Z w5 c p room nb 0 ⟨I, [], -1, false⟩ fr bl (.returned (.tuple #[.pointer jv, .int .i64 code])) w' := ⟨_, rfl⟩
 rw [← hPO]
 obtain ⟨L, hLe⟩ : ∃ L, L = 512 * nb := ⟨_, rfl⟩
 have HF : Hid (Calls Tryz.prog 22 #[.slice (some ⟨ib, 0, none⟩) L ic] w fun e w3 => ∃ g1 cp1, e = .returned (.slice (some ⟨g1, 0, none⟩) L cp1) ∧
    Calls Tryz.prog 21 #[.slice (some ⟨g1, 0, none⟩) L cp1] w3 fun e w4 => ∃ p', e = .returned (.tuple #[.pointer (some ⟨p', 0, none⟩), .int .i64 0]) ∧
     Calls Tryz.prog 24 #[.pointer (some ⟨p', 0, none⟩), .int .i64 (room : Int)] w4 fun e w5 => ∃ c', e = .returned (.tuple #[.pointer (some ⟨c', 0, none⟩), .int .i64 0]) ∧
      Calls Tryz.prog 27 #[.pointer (some ⟨c', 0, none⟩), .int .i64 fr, .int .i64 bl] w5 fun e w6 => ∃ jv code, e = .returned (.tuple #[.pointer jv, .int .i64 code]) ∧ PO (.returned (.tuple #[.pointer jv, .int .i64 code])) w6) := by
  rw [hLe]
  refine Calls.mono (CopyBytes_any (some ⟨ib, 0, none⟩) (512 * nb) ic I w (by omega) (by simp) (hI.rd hIb)) ?_
  rintro e w3 ⟨g1, cp1, rfl, _, o1, b3⟩
  refine ⟨g1, cp1, rfl, ?_⟩
  refine Calls.mono (Open_ok ⟨g1, 0, none⟩ nb cp1 I w3 n1 hnb (o1.rd hIb)) ?_
  rintro e w4 ⟨p', rfl, _, dk, b4⟩
  refine ⟨p', rfl, ?_⟩
  refine Calls.mono (CNew_ok (w := w4) p' room r1 r2) ?_
  rintro e w5 ⟨c', rfl, _, cst, b5⟩
  have s3 := b3.size
  have s4 := b4.size
  have s5 := b5.size
  have hq := Cq.new dk cst b5 s4
  have B5 : Below w.heap.size w w5 := (b3.trans (b4.mono s3)).trans (b5.mono (by omega))
  refine ⟨c', rfl, Calls.mono (Open_any hq fr bl (by simp only [List.length_nil]; omega)) ?_⟩
  intro e w6 hO
  have hO2 := hO
  obtain ⟨b6, jv, code, rfl, _⟩ := hO
  refine ⟨jv, code, rfl, ?_⟩
  rw [hPO]
  refine ⟨jv, code, rfl, ((But.of_below B5 (X := fun k => w.heap.size ≤ k)).comp b6 (fun k _ q => by omega)).below (Nat.le_refl _) (fun k hk q => by omega), w5, c', p', _, by omega, fun k q => ⟨by omega, q.2⟩, hq.fits.1, hO2⟩
 have HN := hid (num_any 0)
 have hL2 : L ≤ 268435456 := by omega
 rw [← hLe]
 clear hI hIb hPO hLe
 go_enter Tryz.func77, Tryz.ntmps77
 go_wp2_with fail
 refine Calls.mono HF.out ?_
 rintro e w3 ⟨g1, cp1, rfl, hO⟩
 have HO := hid hO
 clear hO HF
 go_wp2_with fail
 refine Calls.mono HO.out ?_
 rintro e w4 ⟨p', rfl, hN⟩
 have HNw := hid hN
 clear hN HO
 go_wp2_with fail
 refine Calls.mono (HN.out w4) ?_
 rintro e w9 ⟨rfl, hw9⟩
 rw [hw9]
 clear hw9
 go_wp2_with fail
 refine Calls.mono HNw.out ?_
 rintro e w5 ⟨c', rfl, hO⟩
 have HO := hid hO
 clear hO HNw
 go_wp2_with fail
 refine Calls.mono (HN.out w5) ?_
 rintro e w9 ⟨rfl, hw9⟩
 rw [hw9]
 clear hw9
 go_wp2_with fail
 refine Calls.mono HO.out ?_
 rintro e w6 ⟨jv, code, rfl, hP⟩
 have FIN := hid hP
 clear hP HO
 go_wp2
 exact FIN.out
theorem OpenP.code {Z : Nat → Prop} {w : World} {c p room nb K f b : Nat} {I : List Int} {jv : Option Addr} {code : Int} {w' : World} (H : OpenP Z w c p room nb K ⟨I, [], -1, false⟩ (f : Int) (b : Int) (.returned (.tuple #[.pointer jv, .int .i64 code])) w') (hlo : 16 ≤ b) (hfit : f + b ≤ nb) (hnb : nb ≤ 524288) :
  (code = 41 ∧ jv = none) ∨ (code = 0 ∧ (∃ l q, headAt f b (imgB I f) = some (l, q)) ∧ ∃ j s d' Z', jv = some ⟨j, 0, none⟩ ∧ Jq Z' w' j c p room nb K f b d' s ∧ d'.off = false) := by
 obtain ⟨b1, jv', code', he, k⟩ := H
 injection he with he
 injection he with he
 simp only [Array.mk.injEq, List.cons.injEq, Value.pointer.injEq, Value.int.injEq, true_and, and_true] at he
 obtain ⟨rfl, rfl⟩ := he
 have hlc : layC ⟨I, [], -1, false⟩ nb (f : Int) (b : Int) = 0 := by
  unfold layC
  rw [if_neg (by simp)]
  exact placeC_ok hlo hfit hnb
 rcases k with ⟨k1, _⟩ | ⟨_, f', b', ef, eb, _, _, k⟩
 ·exact absurd hlc k1
 ·have ef' : f' = f := by omega
  have eb' : b' = b := by omega
  subst ef' eb'
  rcases k with ⟨k1, k2, _, _⟩ | ⟨l', q', k1, k2, k3, Z', k4, k5⟩
  ·exact .inl ⟨k1, k2⟩
  ·obtain ⟨f1, f2, f3⟩ := Pd.runs_free (d := ⟨I, [], -1, false⟩) rfl rfl (settleCmds nb f' b' (openS nb f' b' ⟨I, [], -1, false⟩ l' q'))
   rcases k5 with ⟨k6, _, _⟩ | ⟨k6, j, k7, k8, k9⟩
   ·exact absurd (k3.trans f1) k6
   ·exact .inr ⟨k6, ⟨l', q', k1⟩, j, _, _, Z', k7, k9, f2⟩
def HalfP (w2 : World) (B : World → Prop) (wb f2 fr : Nat) (jv : Option Addr) (code : Int) : Prop :=
 (code = 41 ∧ jv = none) ∨ (code = 0 ∧ ∃ j k : Nat, jv = some ⟨j, 0, none⟩ ∧ (Calls Tryz.prog 48 #[.pointer (some ⟨j, 0, none⟩)] w2 fun e w' => e = .returned (.tuple #[.int .i64 (k : Int), .int .i64 0]) ∧ Below w2.heap.size w2 w') ∧ (k = 0 ∨ f2 ≠ fr ∨ ∀ w', Below w2.heap.size w2 w' → Calls Tryz.prog 30 #[.pointer (some ⟨wb, 0, none⟩), .pointer (some ⟨j, 0, none⟩)] w' fun e w'' => ∃ g', e = .returned (.tuple #[.pointer (some ⟨g', 0, none⟩), .bool true]) ∧ B w''))
theorem halfP_of {X : Nat → Prop} {w w5 w2 : World} {wb p0 c0 : Nat} {jo : Value} {g room : Nat} {lasted : Int} {off : Bool} {tried tl td : Value} {hb hc nb fr bl : Nat} {H : List Int} {ta : Option Addr} {tc : Nat} {vs : List Value} {Us : List (List Pm)} (hW : Wb w wb p0 c0 jo g (room : Int) lasted off false tried tl td) (hL : LgW X w g hb hc nb fr bl H ta tc vs Us)
  {I : List Int} {d : Pd} {lo : Nat} (hC : Cut d nb fr bl lo (imgB H) (plainT Us)) (hla : lasted ≤ (lo : Int)) (hlo : 16 ≤ bl) (hfit : fr + bl ≤ nb) (hnb : nb ≤ 524288) (hUs : Us.length ≤ 1099511627776) (f2 : Nat) (hf2 : f2 + bl ≤ nb)
  (hu : f2 = fr → (∀ x, x < nb → d.poss x (imgB I x)) ∨ imgB I fr = blankZ fr bl ∨ (imgB I fr = headZ fr bl 1 0 ∧ ∀ m, m < bl - 1 → imgB I (fr + 1 + m) = blankZ fr bl))
  {c p : Nat} {Z : Nat → Prop} {jv : Option Addr} {code : Int} (hs5 : w.heap.size ≤ w5.heap.size) (hZ : ∀ k, Z k → w.heap.size ≤ k ∧ k < w5.heap.size) (hft : (⟨I, [], -1, false⟩ : Pd).Fits nb) (hb2 : Below w.heap.size w w2) (hO : OpenP Z w5 c p room nb 0 ⟨I, [], -1, false⟩ (f2 : Int) (bl : Int) (.returned (.tuple #[.pointer jv, .int .i64 code])) w2) :
  HalfP w2 (fun w'' => Below w.heap.size w w'') wb f2 fr jv code := by
 have hseq : ∀ {Z' : Nat → Prop} {j : Nat} {d' : Pd} {s : Js} (n : Nat), Jq Z' w2 j c p room nb 0 f2 bl d' s → d'.off = false → s.seq = n → Calls Tryz.prog 48 #[.pointer (some ⟨j, 0, none⟩)] w2 fun e w' => e = .returned (.tuple #[.int .i64 (n : Int), .int .i64 0]) ∧ Below w2.heap.size w2 w' := fun n hJ ho hn => by
  have h := Seq_any hJ
  rw [ho, hn] at h
  exact h
 by_cases hff : f2 = fr
 ·subst hff
  rcases hu rfl with hp | hbk | ⟨hh, hbs⟩
  ·obtain ⟨b6, j, s, n, Z', d', he, n1, n2, g6, fu6, J6, on6⟩ := OpenP.cutOn hO hC hlo hfit hnb hp hft
   injection he with he
   injection he with he
   simp only [Array.mk.injEq, List.cons.injEq, Value.pointer.injEq, Value.int.injEq, true_and, and_true] at he
   obtain ⟨rfl, rfl⟩ := he
   have hTl : (plainT Us).length = Us.length := by simp [plainT]
   have hsq : s.seq = n := by
    have := on6.sq
    rw [this, List.length_take]
    omega
   refine .inr ⟨rfl, j, n, rfl, hseq n J6 on6.on hsq, .inr (.inr (fun w' hb' => ?_))⟩
   have bb := hb2.trans (hb'.mono hb2.size)
   have nz : ∀ k, k < w.heap.size → ¬ (Z' k ∧ k < w2.heap.size) := fun k hk q => by
    have := (hZ k (g6 k (by omega) q.1)).1
    omega
   have hLb := hL.below bb (fun k => X k ∨ w.heap.size ≤ k) (fun k hk q => by
    rcases q with q | q
    ·exact q
    ·omega)
   have on7 : On d' s nb f2 bl n (imgB H) (plainT (Us.take n)) := by rw [plainT_take]; exact on6
   refine Calls.mono (opened_any (hW.keep (bb.block wb hW.lt)) hLb (J6.cut.below hb') on7 (by omega) (by omega) (fun k _ q => .inr (Nat.le_of_not_lt (fun hk => nz k hk q))) hlo hfit hUs (by omega)) ?_
   rintro e w'' ⟨g', _, _, _, _, rfl, _, _, _, _, _, b8⟩
   exact ⟨g', rfl, ((But.of_below bb (X := fun k => w.heap.size ≤ k)).comp b8 (fun k hk q => absurd q (nz k hk))).below (Nat.le_refl _) (fun k hk q => by omega)⟩
  ·rcases OpenP.code hO hlo hfit hnb with q | ⟨_, ⟨l, q', hh⟩, _⟩
   ·exact .inl q
   ·rw [hbk, headAt_blank] at hh
    cases hh
  ·obtain ⟨b6, j, Z', d', s, he, _, g6, fu6, J6, on6⟩ := OpenP.anew hO (fresh_on (nb := nb) (by omega) hh hbs) rfl hft hlo hfit hnb
   injection he with he
   injection he with he
   simp only [Array.mk.injEq, List.cons.injEq, Value.pointer.injEq, Value.int.injEq, true_and, and_true] at he
   obtain ⟨rfl, rfl⟩ := he
   exact .inr ⟨rfl, j, 0, rfl, hseq 0 J6 on6.on on6.sq, .inl rfl⟩
 ·rcases OpenP.code hO hlo hf2 hnb with q | ⟨q0, _, j, s, d', Z', rfl, J6, ho⟩
  ·exact .inl q
  ·exact .inr ⟨q0, j, s.seq, rfl, hseq s.seq J6 ho rfl, .inr (.inl hff)⟩
set_option maxRecDepth 100000 in
set_option maxHeartbeats 4000000 in
theorem half_any {X : Nat → Prop} {w : World} {wb p0 c0 : Nat} {jo : Value} {g room : Nat} {lasted : Int} {off : Bool} {tried tl td : Value} {hb hc nb fr bl : Nat} {H : List Int} {ta : Option Addr} {tc : Nat} {vs : List Value} {Us : List (List Pm)} (hW : Wb w wb p0 c0 jo g (room : Int) lasted off false tried tl td) (hL : LgW X w g hb hc nb fr bl H ta tc vs Us) (r1 : 1 ≤ room) (r2 : room ≤ 4096)
  {ib ic : Nat} {I : List Int} (hI : Own w ib (512 * nb) ic I) (hIb : Pl.isB I) {d : Pd} {lo : Nat} (hC : Cut d nb fr bl lo (imgB H) (plainT Us)) (hla : lasted ≤ (lo : Int)) (hlo : 16 ≤ bl) (hfit : fr + bl ≤ nb) (hnb : nb ≤ 524288) (hUs : Us.length ≤ 1099511627776) (f2 : Nat) (hf2 : f2 + bl ≤ nb)
  (hu : f2 = fr → (∀ x, x < nb → d.poss x (imgB I x)) ∨ imgB I fr = blankZ fr bl ∨ (imgB I fr = headZ fr bl 1 0 ∧ ∀ m, m < bl - 1 → imgB I (fr + 1 + m) = blankZ fr bl)) (hv rv : Value) :
  Calls Tryz.prog 39 #[.pointer (some ⟨wb, 0, none⟩), .slice (some ⟨ib, 0, none⟩) (512 * nb) ic, .int .i64 (f2 : Int), .agg #[hv, .int .i64 (fr : Int), .int .i64 (bl : Int), rv]] w fun e w' => e = .returned (.bool true) ∧ Below w.heap.size w w' := by
 obtain ⟨PO, hPO⟩ : ∃ PO : Ending → World → Prop, PO = fun e w' => e = .returned (.bool true) ∧ Below w.heap.size w w' := ⟨_, rfl⟩
 rw [← hPO]
 obtain ⟨L, hLe⟩ : ∃ L, L = 512 * nb := ⟨_, rfl⟩
 obtain ⟨pk, hpk⟩ : ∃ pk, pk = w.heap.size := ⟨_, rfl⟩
 obtain ⟨w1, hw1⟩ : ∃ w1, w1 = w.alloc (.cells #[hv, .int .i64 (fr : Int), .int .i64 (bl : Int), rv] 24) := ⟨_, rfl⟩
 have b1 : Below w.heap.size w w1 := by rw [hw1]; exact (Below.refl _ _).alloc (Nat.le_refl _) _
 have z1 : w1.heap.size = w.heap.size + 1 := by rw [hw1]; simp
 have a1 : w1.cell? ⟨pk, 1, none⟩ = some (.int .i64 (fr : Int)) := by rw [hw1, hpk]; exact cell_new rfl 1 _ rfl
 have a2 : w1.cell? ⟨pk, 2, none⟩ = some (.int .i64 (bl : Int)) := by rw [hw1, hpk]; exact cell_new rfl 2 _ rfl
 have hpl : pk < w1.heap.size := by omega
 have hW1 := hW.keep (b1.block wb hW.lt)
 have hL1 := hL.below b1 X (fun _ _ q => q)
 have n1 : 1 ≤ nb := by omega
 have HK : Hid (∀ w', Below w1.heap.size w1 w' → w'.cell? ⟨pk, 2, none⟩ = some (.int .i64 (bl : Int)) ∧ w'.cell? ⟨wb, 4, none⟩ = some (.int .i64 (room : Int)) ∧ w'.cell? ⟨pk, 1, none⟩ = some (.int .i64 (fr : Int))) := fun w' hb' => ⟨(hb'.cell (p := ⟨pk, 2, none⟩) hpl).trans a2, (hW1.keep (hb'.block wb hW1.lt)).cell 4, (hb'.cell (p := ⟨pk, 1, none⟩) hpl).trans a1⟩
 obtain ⟨k2, k4, _⟩ := HK.out w1 (Below.refl _ _)
 have HOv : Hid (Calls Tryz.prog 77 #[.slice (some ⟨ib, 0, none⟩) L ic, .int .i64 (f2 : Int), .int .i64 (bl : Int), .int .i64 (room : Int)] w1.drew fun e w2 => ∃ jv code, e = .returned (.tuple #[.pointer jv, .int .i64 code]) ∧ Below w1.heap.size w1 w2 ∧ HalfP w2 (fun w'' => PO (.returned (.bool true)) w'') wb f2 fr jv code) := by
  rw [hLe]
  have bd : Below w.heap.size w w1.drew := b1.drew
  refine Calls.mono (over_any (w := w1.drew) (hI.keep (bd.block ib hI.lt)) hIb n1 hnb r1 r2 (f2 : Int) (bl : Int)) ?_
  rintro e w2 ⟨jv, code, rfl, q1, w5, c, p, Z, q2, q3, q4, q5⟩
  have b12 : Below w1.heap.size w1 w2 := (Below.refl w1.heap.size w1).drew.trans q1
  have bw2 : Below w.heap.size w w2 := b1.trans (b12.mono b1.size)
  have q2' : w1.heap.size ≤ w5.heap.size := q2
  refine ⟨jv, code, rfl, b12, ?_⟩
  have hP := halfP_of hW hL hC hla hlo hfit hnb hUs f2 hf2 hu (by omega) (fun k r => ⟨by have : w1.heap.size ≤ k := (q3 k r).1; omega, (q3 k r).2⟩) q4 bw2 q5
  rcases hP with h | ⟨h0, j, k, h1, h2, h3⟩
  ·exact .inl h
  ·refine .inr ⟨h0, j, k, h1, h2, h3.imp id (Or.imp id (fun h w' hb' => Calls.mono (h w' hb') ?_))⟩
   rintro e w'' ⟨g', rfl, hb''⟩
   exact ⟨g', rfl, by rw [hPO]; exact ⟨rfl, hb''⟩⟩
 have HFin : Hid (∀ w', Below w1.heap.size w1 w' → PO (.returned (.bool true)) w') := fun w' hb' => by
  rw [hPO]
  exact ⟨rfl, b1.trans (hb'.mono b1.size)⟩
 have HN := hid num_any
 have HW1 := hid hw1
 have HPK := hid hpk
 rw [← hLe]
 clear hW hL hI hIb hC hla hUs hu hPO hw1 b1 z1 a1 a2 hpl hW1 hL1 hpk hLe
 go_enter Tryz.func39, Tryz.ntmps39
 go_wp2_with fail
 rw [← HW1.out, ← HPK.out]
 refine wp_region_noPanic ?_
 refine wp_region_held_drew (S := fun w' => w'.cell? ⟨pk, 2, none⟩ = some (.int .i64 (bl : Int)) ∧ w'.cell? ⟨wb, 4, none⟩ = some (.int .i64 (room : Int))) (by kernel_rfl) ⟨k2, k4⟩ (fun hSS => ?_)
 apply tk 0 (some 16) (.move (.tmp 1)) 22 none rfl (by kernel_rfl) (fun _ _ _ h => h) (by rfl) hSS
 ·(intro a h; (try dsimp only at h); (try go_split_ands); go_simp; try with_reducible rfl)
 apply tk 1 (some 17) (.move (.tmp 2)) 3 none rfl (by kernel_rfl) (fun _ _ _ h => h) (by rfl) hSS
 ·(intro a h; (try dsimp only at h); (try go_split_ands); go_simp; try with_reducible rfl)
 apply tk 2 (some 18) (.fieldAddr 24 (.tmp 7) 2) 0 none rfl (by kernel_rfl) (fun _ _ _ h => h) (by rfl) hSS
 ·(intro a h; (try dsimp only at h); (try go_split_ands); go_simp; try with_reducible rfl)
 apply tk 3 (some 19) (.load 3 (.tmp 18)) 3 none rfl (by kernel_rfl) (fun _ _ _ h => h) (by rfl) hSS
 ·(intro a h; (try dsimp only at h); (try go_split_ands); go_simp; try with_reducible rfl)
 try simp only [Act.put, List.setIfInBounds_toArray, List.set_cons_zero, List.set_cons_succ]
 apply tk 4 (some 20) (.move (.tmp 0)) 27 none rfl (by kernel_rfl) (fun _ _ _ h => h) (by rfl) hSS
 ·(intro a h; (try dsimp only at h); (try go_split_ands); go_simp; try with_reducible rfl)
 apply tk 5 (some 21) (.nilCheck (.tmp 20)) 0 none rfl (by kernel_rfl) (fun _ _ _ h => h) (by rfl) hSS
 ·(intro a h; (try dsimp only at h); (try go_split_ands); go_simp; try with_reducible rfl)
 apply tk 6 (some 22) (.fieldAddr 45 (.tmp 21) 4) 0 none rfl (by kernel_rfl) (fun _ _ _ h => h) (by rfl) hSS
 ·(intro a h; (try dsimp only at h); (try go_split_ands); go_simp; try with_reducible rfl)
 apply tk 7 (some 23) (.load 3 (.tmp 22)) 3 none rfl (by kernel_rfl) (fun _ _ _ h => h) (by rfl) hSS
 ·(intro a h; (try dsimp only at h); (try go_split_ands); go_simp; try with_reducible rfl)
 try simp only [Act.put, List.setIfInBounds_toArray, List.set_cons_zero, List.set_cons_succ]
 refine wpAnyH_ready (rs := [8]) (by kernel_rfl) (by simp) (AllReadyH.cons (o := ({ dst := some 24, op := Op.call { callee := Callee.value (Operand.func 77), args := #[Operand.tmp 16, Operand.tmp 17, Operand.tmp 19, Operand.tmp 23], argTypes := #[22, 3, 3, 3] }, type := 70, pos := _, after := _, guard := none } : Oper)) rfl (fun K9 hK9 => ?_) AllReadyH.nil)
 go_simp
 go_at_call 77
 refine Calls.mono HOv.out ?_
 rintro e w2 ⟨jv, code, rfl, hb2, F2⟩
 have H2 := hid F2
 have B2 := hid hb2
 obtain ⟨l2, l4, l1⟩ := HK.out w2 hb2
 clear F2 HOv hb2
 refine hK9.out _ _ ⟨l2, l4⟩ (fun hSS => ?_)
 clear hK9 K9
 try simp only [Act.put, List.setIfInBounds_toArray, List.set_cons_zero, List.set_cons_succ]
 apply tk 9 (some 15) (.move (.tmp 24)) 70 none rfl (by kernel_rfl) (fun _ _ _ h => h) (by rfl) hSS
 ·(intro a h; (try dsimp only at h); (try go_split_ands); go_simp; try with_reducible rfl)
 try simp only [Act.put, List.setIfInBounds_toArray, List.set_cons_zero, List.set_cons_succ]
 apply tk 10 (some 25) (.extract (.tmp 15) 0) 39 none rfl (by kernel_rfl) (fun _ _ _ h => h) (by rfl) hSS
 ·(intro a h; (try dsimp only at h); (try go_split_ands); go_simp; try with_reducible rfl)
 apply tk 11 (some 26) (.extract (.tmp 15) 1) 55 none rfl (by kernel_rfl) (fun _ _ _ h => h) (by rfl) hSS
 ·(intro a h; (try dsimp only at h); (try go_split_ands); go_simp; try with_reducible rfl)
 apply tk 12 (some 9) (.assign (.tmp 25)) 39 none rfl (by kernel_rfl) (fun _ _ _ h => h) (by rfl) hSS
 ·(intro a h; (try dsimp only at h); (try go_split_ands); go_simp; try with_reducible rfl)
 apply tk 13 (some 10) (.assign (.tmp 26)) 55 none rfl (by kernel_rfl) (fun _ _ _ h => h) (by rfl) hSS
 ·(intro a h; (try dsimp only at h); (try go_split_ands); go_simp; try with_reducible rfl)
 try simp only [Act.put, List.setIfInBounds_toArray, List.set_cons_zero, List.set_cons_succ]
 refine wpAnyH_done (by kernel_rfl) (NoPanic.normal ?_) _
 clear hSS k2 k4
 rcases H2.out with ⟨rfl, rfl⟩ | ⟨rfl, j, k, rfl, hSq, hcase⟩
 ·have FIN := hid (HFin.out w2 B2.out)
  clear H2 l2 l4 l1
  go_wp2_with fail
  refine Calls.mono (HN.out 41 w2) ?_
  rintro e w9 ⟨rfl, hw9⟩
  rw [hw9]
  clear hw9
  go_wp2_with fail
  refine Calls.mono (HN.out 41 w2) ?_
  rintro e w9 ⟨rfl, hw9⟩
  rw [hw9]
  clear hw9
  go_wp2
  exact FIN.out
 have HSq := hid hSq
 have HB : Hid (∀ w3, Below w2.heap.size w2 w3 → Below w1.heap.size w1 w3) := fun w3 hb => B2.out.trans (hb.mono B2.out.size)
 by_cases hs : k = 0 ∨ f2 ≠ fr
 ·clear hcase hSq H2
  go_wp2_with fail
  refine Calls.mono (HN.out 0 w2) ?_
  rintro e w9 ⟨rfl, hw9⟩
  rw [hw9]
  clear hw9
  go_wp2_with fail
  refine Calls.mono HSq.out ?_
  rintro e w3 ⟨rfl, b3⟩
  have FIN := hid (HFin.out w3 (HB.out w3 b3))
  obtain ⟨m2, m4, m1⟩ := HK.out w3 (HB.out w3 b3)
  clear HSq b3 l2 l4 l1
  go_wp2_with fail
  refine Calls.mono (HN.out 0 w3) ?_
  rintro e w9 ⟨rfl, hw9⟩
  rw [hw9]
  clear hw9
  by_cases hk : k = 0
  ·subst hk
   go_wp2
   exact FIN.out
  ·have e0 : ((k : Int) == 0) = false := by simpa using hk
   have e1 : (k == 0) = false := by simpa using hk
   have hne : f2 ≠ fr := hs.resolve_left hk
   have hne2 : ¬ ((f2 : Int) = (fr : Int)) := by omega
   have e2 : ((f2 : Int) != (fr : Int)) = true := by simpa using hne2
   have e3 : (f2 != fr) = true := by simpa using hne
   go_wp2
   exact FIN.out
 ·have hk : ¬ k = 0 := fun q => hs (.inl q)
  have hff : f2 = fr := Classical.byContradiction fun q => hs (.inr q)
  have HO := hid ((hcase.resolve_left hk).resolve_left (fun q => q hff))
  subst hff
  have e0 : ((k : Int) == 0) = false := by simpa using hk
  have e1 : (k == 0) = false := by simpa using hk
  clear hcase hSq H2 hs
  go_wp2_with fail
  refine Calls.mono (HN.out 0 w2) ?_
  rintro e w9 ⟨rfl, hw9⟩
  rw [hw9]
  clear hw9
  go_wp2_with fail
  refine Calls.mono HSq.out ?_
  rintro e w3 ⟨rfl, b3⟩
  have HO3 := hid (HO.out w3 b3)
  obtain ⟨m2, m4, m1⟩ := HK.out w3 (HB.out w3 b3)
  clear HSq b3 HO l2 l4 l1
  go_wp2_with fail
  refine Calls.mono (HN.out 0 w3) ?_
  rintro e w9 ⟨rfl, hw9⟩
  rw [hw9]
  clear hw9
  go_wp2_with fail
  refine Calls.mono HO3.out ?_
  rintro e w4 ⟨g', rfl, hP⟩
  have FIN := hid hP
  clear hP HO3
  go_wp2
  exact FIN.out
end Go.Proofs.YtldlejpacgphmaaGreat
namespace Go.Proofs.YtldlejpacgphmaaGreat
open Go.RowKit
theorem Cq.fuse {Z : Nat → Prop} {w : World} {c p room nb K : Nat} {d : Pd} (h : Cq Z w c p room nb K d) (hon : d.off = false) (k : Int) (hk : -1 ≤ k) (hk2 : k ≤ 9223372036854775807) :
  Calls Tryz.prog 38 #[.pointer (some ⟨p, 0, none⟩), .int .i64 k] w fun e w' => e = .returned (.int .i64 0) ∧ (∃ Z', Cq Z' w' c p room nb K ⟨d.img, d.puts, k, false⟩ ∧ Gr Z Z' w) ∧ But Z w w' := by
 obtain ⟨X, Y, hi, mi, l, h1, h2, h3, h4, h5, h6, h7⟩ := h
 have hr : fuseR d.off k = 0 := by
  unfold fuseR
  rw [hon]
  simp
  omega
 have H := Fuse_any h1.dk k hk2
 rw [hr, if_pos rfl] at H
 refine Calls.mono H ?_
 rintro e w' ⟨rfl, d1, b1⟩
 rw [hon] at d1
 refine ⟨rfl, Cq.mk' (d := ⟨d.img, d.puts, k, false⟩) (X := X) (Y := Y) (X' := X) (Y' := fun k => Y k ∧ k < w.heap.size) ⟨h1.ca.cut.but b1 (fun k q => h1.dj k q.1), d1, fun k q q' => h1.dj k q.1 q'⟩ (fun k hk => ⟨fun q => q, fun q => q.1⟩) h2 h3 h5 h6 h7, b1.mono (fun k _ q => h2 k q)⟩
end Go.Proofs.YtldlejpacgphmaaGreat
namespace Go.Proofs.YtldlejpacgphmaaGreat
open Go.RowKit
theorem On.fuse {d : Pd} {s : Js} {nb fr bl lo : Nat} {home : Nat → List Int} {Ts : List Tn} (h : On d s nb fr bl lo home Ts) (k : Int) : On ⟨d.img, d.puts, k, false⟩ s nb fr bl lo home Ts := by
 obtain ⟨⟨q, base, ts, k', hn⟩, _, h3, h4⟩ := h
 exact ⟨⟨q, base, ts, k', ⟨⟨hn.1.1, hn.1.2, hn.1.3⟩, hn.2, hn.3, hn.4, hn.5, hn.6, hn.7⟩⟩, rfl, h3, h4⟩
def anewW (w : World) (wb j nb fr bl hb hc : Nat) : World := (((w.setCell ⟨wb, 2, none⟩ (.pointer (some ⟨j, 0, none⟩))).alloc (.cells #[.slice (some ⟨hb, 0, none⟩) (512 * nb) hc, .int .i64 (fr : Int), .int .i64 (bl : Int), .slice none 0 0] 48)).setCell ⟨wb, 3, none⟩ (.pointer (some ⟨w.heap.size, 0, none⟩))).setCell ⟨wb, 5, none⟩ (.int .i64 0)
theorem Wx.anew {Z Z3 : Nat → Prop} {w w3 : World} {wb p c j g room nb fr bl K K3 lasted : Nat} {tried tl td : Value} {hb hc : Nat} {H : List Int} {ta : Option Addr} {tc : Nat} {vs : List Value} {Us : List (List Pm)} {Ls : List Ln} {n1 : Nat} {cs : List Value} {d d3 : Pd} {s : Js} (h : Wx Z w wb p c j g room nb fr bl K lasted tried tl td hb hc H ta tc vs Us Ls n1 cs d s) (b3 : But Z w w3) (q3 : Cq Z3 w3 c p room nb K3 d3) (g3 : Gr Z Z3 w) (ho3 : d3.off = false) (hp3 : d3.puts = []) (f2 : Nat) (hf2 : f2 + bl ≤ nb) {hb2 hc2 : Nat} {Hm : List Int} (on3 : On d3 (beginS noS) nb f2 bl 0 (imgB Hm) []) (ow3 : Own w3 hb2 (512 * nb) hc2 Hm) (isB : Pl.isB Hm) (nz3 : ¬ Z3 hb2) (nw : hb2 ≠ wb) (nT : ¬ TB tl td Ls hb2) :
  Calls Tryz.prog 38 #[.pointer (some ⟨p, 0, none⟩), .int .i64 (-1)] w3 fun e w4 => e = .returned (.int .i64 0) ∧ But (fun k => Z3 k ∧ k < w3.heap.size) w3 w4 ∧
   Calls Tryz.prog 27 #[.pointer (some ⟨c, 0, none⟩), .int .i64 (f2 : Int), .int .i64 (bl : Int)] w4.drew fun e w5 => ∃ j', e = .returned (.tuple #[.pointer (some ⟨j', 0, none⟩), .int .i64 0]) ∧ But (fun k => Z3 k ∧ k < w3.heap.size) w3 w5 ∧ ∃ W', WD W' (anewW w5 wb j' nb f2 bl hb2 hc2) wb room nb f2 bl K3 0 Hm [] ∧ ∀ k, k < w3.heap.size → W' k → (Z3 k ∨ k = wb ∨ TB tl td Ls k) := by
 have hnb9 := h.nb
 have hwl := h.wd.lt
 have s3 := b3.size
 refine Calls.mono (Cq.fuse q3.cut ho3 (-1) (by omega) (by omega)) ?_
 rintro e w4 ⟨rfl, ⟨Z4, q4, g4⟩, b4⟩
 refine ⟨rfl, b4, ?_⟩
 have s4 := b4.size
 refine Calls.mono (Open_any q4.cut.drew (f2 : Int) (bl : Int) (by show d3.puts.length + nb + nb + 8 ≤ _; rw [hp3]; simp only [List.length_nil]; omega)) ?_
 intro e w5 hO
 obtain ⟨b5', j', Z5, d5, s5, rfl, hj5, g5, fu5, J5, on5⟩ := OpenP.anew hO (on3.fuse (-1)) rfl q4.fits.1 h.lo hf2 h.nb
 have b45 : But (fun k => Z4 k ∧ k < w4.heap.size) w4 w5 := (But.of_below ((Below.refl w4.heap.size w4).drew)).comp b5' (fun _ _ q => q)
 have s5' := b45.size
 have b35 : But (fun k => Z3 k ∧ k < w3.heap.size) w3 w5 := b4.comp b45 (fun k hk q => g4 k hk q.1)
 refine ⟨j', rfl, b35, ?_⟩
 have g35 : ∀ k, k < w3.heap.size → Z5 k → Z3 k := fun k hk q => (g4 k hk (g5 k (by show k < w4.heap.size; omega) q).1).1
 have nzw3 : ¬ Z3 wb := fun q => h.zw (g3 wb hwl q)
 have hTlt : ∀ k, TB tl td Ls k → k < w.heap.size := fun k q => h.tlt q
 obtain ⟨wF, hwF⟩ : ∃ wF, wF = anewW w5 wb j' nb f2 bl hb2 hc2 := ⟨_, rfl⟩
 rw [← hwF]
 have bF : But (fun k => k = wb) w5 wF := by
  rw [hwF]
  exact ((((But.refl (fun k => k = wb) w5).setCell rfl _).alloc _).setCell rfl _).setCell rfl _
 have zF : wF.heap.size = w5.heap.size + 1 := by rw [hwF]; simp [anewW]
 have wd5 := (h.wd.keep (b3.block wb hwl h.zw)).keep (b35.block wb (by omega) (fun q => nzw3 q.1))
 have hl5 := wd5.lt
 have wdA : Wb ((w5.setCell ⟨wb, 2, none⟩ (.pointer (some ⟨j', 0, none⟩))).alloc (.cells #[.slice (some ⟨hb2, 0, none⟩) (512 * nb) hc2, .int .i64 (f2 : Int), .int .i64 (bl : Int), .slice none 0 0] 48)) wb p c (.pointer (some ⟨j', 0, none⟩)) g (room : Int) (lasted : Int) false false tried tl td := (wd5.set2j _).keep (Below.heap_alloc _ _ _ (by simpa using hl5))
 have wdF : Wb wF wb p c (.pointer (some ⟨j', 0, none⟩)) w5.heap.size (room : Int) ((0 : Nat) : Int) false false tried tl td := by
  rw [hwF]
  exact (wdA.set3 _).set5 _
 have lgF : Lg wF w5.heap.size (some ⟨hb2, 0, none⟩) nb hc2 f2 bl none 0 0 := by
  refine ⟨?_⟩
  rw [hwF]
  unfold anewW
  have e1 : w5.heap.size ≠ wb := by omega
  rw [Below.heap_setCell _ _ _ _ e1, Below.heap_setCell _ _ _ _ e1]
  have := @Array.getElem?_push_size _ (w5.setCell ⟨wb, 2, none⟩ (.pointer (some ⟨j', 0, none⟩))).heap (.cells #[.slice (some ⟨hb2, 0, none⟩) (512 * nb) hc2, .int .i64 (f2 : Int), .int .i64 (bl : Int), .slice none 0 0] 48 (0, 0))
  simp only [World.alloc]
  rw [show w5.heap.size = (w5.setCell ⟨wb, 2, none⟩ (.pointer (some ⟨j', 0, none⟩))).heap.size by simp]
  exact this
 have hl3 := ow3.lt
 have owF : Own wF hb2 (512 * nb) hc2 Hm := (ow3.keep (b35.block hb2 hl3 (fun q => nz3 q.1))).keep (bF.block hb2 (by omega) nw)
 have b3F : But (fun k => (Z3 k ∧ k < w3.heap.size) ∨ k = wb) w3 wF := (b35.mono (fun _ _ q => .inl q)).comp bF (fun _ _ q => .inr q)
 have bwF : But (fun k => Z k ∨ k = wb) w wF := (b3.mono (fun _ _ q => .inl q)).comp b3F (fun k hk q => q.elim (fun q => .inl (g3 k hk q.1)) .inr)
 have nw5 : ¬ (Z5 wb ∧ wb < w5.heap.size) := fun q => nzw3 (g35 wb (by omega) q.1)
 have JF := J5.cut.but bF (fun k _ q e => nw5 (by rw [← e]; exact q))
 have htr := h.tr.but bwF (fun k _ q e => e.elim (fun e => h.zt k (.inr q) e) (fun e => h.tw (by rw [← e]; exact .inr q)))
 have hls := owns_keep h.ls (fun k e => bwF.block k (World.ownsRow.lt h.ls k e).2 (fun r => r.elim (fun r => h.zt k (.inl e) r) (fun r => h.tw (by rw [← r]; exact .inl e))))
 have hLF : LgW (fun k => (Z5 k ∧ k < w5.heap.size) ∨ k = wb ∨ TB tl td Ls k) wF w5.heap.size hb2 hc2 nb f2 bl Hm none 0 [] [] := by
  refine ⟨lgF, by omega, fun q => ?_, owF, isB, ⟨fun q => ?_, by omega, by intro q; cases q⟩, World.ownsRow_nil _ _ _ _, (fun k e => by cases e), fun i ps hi => by simp at hi⟩
  ·rcases q with q | q | q
   ·omega
   ·omega
   ·have := hTlt _ q
    omega
  ·rcases q with q | q | q
   ·exact nz3 (g35 hb2 hl3 q.1)
   ·exact nw q
   ·exact nT q
 refine ⟨_, ⟨_, p, c, j', w5.heap.size, tried, tl, td, hb2, hc2, none, 0, [], Ls, n1, cs, d5, s5, ⟨wdF, hLF, JF, fu5, htr, hls, h.n1, h.nl, nw5, fun k q r => h.zt k q (g3 k (hTlt k q) (g35 k (by have := hTlt k q; omega) r.1)), h.tw, h.lt, fun k q => by omega, h.lo, hf2, h.r1, h.r2⟩, on5, rfl⟩, fun k hk q => ?_⟩
 rcases q with (q | q | q) | q | q
 ·exact .inl (g35 k hk q.1)
 ·exact .inr (.inl q)
 ·exact .inr (.inr q)
 ·omega
 ·cases q
end Go.Proofs.YtldlejpacgphmaaGreat
