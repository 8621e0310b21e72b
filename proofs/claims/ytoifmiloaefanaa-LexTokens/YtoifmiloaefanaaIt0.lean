/-
  lex: the iterator over tokens.
-/
import Derived.Test.YtoifmiloaefanaaSc9
import Derived.Test.YtoifmiloaefanaaRg0
namespace Go.Proofs.Ytoifmiloaefanaa
open Go.RowKit Go.Shelf

attribute [local go_sem] Oper.semAt_some

/-! ### plain: what has come out so far -/
theorem lexF_form : ∀ (f : Nat) (zs : List Int) (k c : Nat), ((lexF f zs k c).2.2 = 0 → (lexF f zs k c).2.1 = 0) ∧ ((lexF f zs k c).2.2 ≠ 0 → (lexF f zs k c).1 = [])
  | 0, _, _, _ => ⟨fun _ => rfl, fun h => absurd rfl h⟩
  | f + 1, zs, k, c => by
    simp only [lexF]
    split
    · exact ⟨fun _ => rfl, fun h => absurd rfl h⟩
    split
    · unfold fin
      split
      · exact ⟨fun _ => rfl, fun h => absurd rfl h⟩
      · rename_i q; exact ⟨fun h => absurd h q, fun _ => rfl⟩
    · rename_i q; exact ⟨fun h => absurd h q, fun _ => rfl⟩
theorem lexA_nil (zs : List Int) (k c : Nat) : fin [] (lexA zs k c) = lexA zs k c := fin_nil _ (lexF_form _ _ _ _).1 (lexF_form _ _ _ _).2
structure Good (zs : List Int) (a : Nat) (pre : List (Tk × Int)) : Prop where
  ok : ∀ x ∈ pre, x.2 = 0
  le : a ≤ zs.length
  few : pre.length ≤ 16384
  val : fin (pre.map Prod.fst) (lexA zs a pre.length) = lexA zs 0 0
theorem Good.zero (zs : List Int) : Good zs 0 [] := ⟨fun _ h => (by cases h), Nat.zero_le _, (by decide), lexA_nil _ _ _⟩
def itm (zs : List Int) (a n : Nat) : Tk × Int := ((nxtA zs (skA false zs a) n).1, (nxtA zs (skA false zs a) n).2.2)
theorem Good.next {zs : List Int} {a : Nat} {pre : List (Tk × Int)} (h : Good zs a pre) (hs : skA false zs a < zs.length) (h0 : (nxtA zs (skA false zs a) pre.length).2.2 = 0) : Good zs (nxtA zs (skA false zs a) pre.length).2.1 (pre ++ [itm zs a pre.length]) := by
  have h3 := nxtA_ok hs h0
  have hn : pre.length ≠ 16384 := fun e => by
    unfold nxtA at h0
    rw [if_pos e] at h0
    cases h0
  have hf := h.few
  refine ⟨fun x hx => ?_, h3.2, by rw [List.length_append, List.length_singleton]; omega, ?_⟩
  · rcases List.mem_append.1 hx with hx | hx
    · exact h.ok x hx
    · rw [List.mem_singleton.1 hx]; exact h0
  · rw [← h.val, lexA_ok h.le hs h0, fin_fin, List.map_append, List.length_append]
    rfl
theorem Good.done {zs : List Int} {a : Nat} {pre : List (Tk × Int)} (h : Good zs a pre) (hs : zs.length ≤ skA false zs a) : lexA zs 0 0 = (pre.map Prod.fst, 0, 0) := by
  rw [← h.val, lexA_end _ hs]
  unfold fin
  simp
theorem nxt_at {zs : List Int} {k c : Nat} (h : (nxtA zs k c).2.2 ≠ 0) : (nxtA zs k c).1.a = ((nxtA zs k c).2.1 : Int) := by
  unfold nxtA at h ⊢
  split
  · rfl
  rename_i q
  rw [if_neg q] at h
  unfold tokA at h ⊢
  split
  · rename_i q1; rw [if_pos q1] at h; exact absurd rfl h
  rename_i q1
  rw [if_neg q1] at h
  split
  · rename_i q2
    rw [if_pos q2] at h
    split
    · rfl
    · rename_i q3; rw [if_neg q3] at h; exact absurd rfl h
  rename_i q2
  rw [if_neg q2] at h
  split
  · rename_i q3
    rw [if_pos q3] at h
    split
    · rename_i q4; rw [if_pos q4] at h; exact absurd rfl h
    split
    · rfl
    · rfl
  rename_i q3
  rw [if_neg q3] at h
  split
  · rename_i q4; rw [if_pos q4] at h; exact absurd rfl h
  · rfl
theorem Good.stop {zs : List Int} {a : Nat} {pre : List (Tk × Int)} (h : Good zs a pre) (hs : skA false zs a < zs.length) (h0 : (itm zs a pre.length).2 ≠ 0) : lexA zs 0 0 = ([], (nxtA zs (skA false zs a) pre.length).2.1, (itm zs a pre.length).2) ∧ (itm zs a pre.length).1.a = ((nxtA zs (skA false zs a) pre.length).2.1 : Int) := by
  refine ⟨?_, nxt_at h0⟩
  rw [← h.val, lexA_err h.le hs h0]
  have e : (([], (nxtA zs (skA false zs a) pre.length).2) : List Tk × Nat × Int).2.2 ≠ 0 := h0
  unfold fin
  rw [if_neg e]
  rfl

def SS (zs : List Int) (c : Option Nat) (xs : List (Tk × Int)) : Prop := (∃ a, c = some a ∧ Good zs a xs ∧ zs.length ≤ skA false zs a) ∨ ∃ x ∈ xs, x.2 ≠ 0
def SP (zs : List Int) (_c : Option Nat) (pre : List (Tk × Int)) : Prop := ∃ a p, pre = p ++ [itm zs a p.length] ∧ Good zs a p ∧ skA false zs a < zs.length
def encT (x : Tk × Int) : Array Value := #[tokV x.1, .int .i64 x.2]

set_option maxRecDepth 100000 in
set_option maxHeartbeats 4000000 in
theorem toks_it (n : Nat) (_hn : 1 ≤ n) (k Bs B : Nat) (zs : List Int) (hb : Pl.isB zs) (hl : zs.length ≤ 16777216) (I : Option Nat → List (Tk × Int) → World → Prop) (Ix : Option Nat → Code → List (Tk × Int) → World → Prop) (w : World) (hk : k < B) (hBs : Bs < B) (hne : Bs ≠ k)
    (hV : ∀ a pre W, I (some a) pre W → Scn W k (strOfNums zs) a ∧ W.cell? ⟨Bs, 0, none⟩ = some (.pointer (some ⟨k, 0, none⟩)) ∧ B + 2 ≤ W.heap.size)
    (hP : ∀ a c1 pre W W', I (some a) pre W → But (fun x => x = k) W W' → (∀ b, c1 = some b → Scn W' k (strOfNums zs) b) → I c1 pre W') :
    RfItG Fence.wide n Try.prog 22 #[.pointer (some ⟨Bs, 0, none⟩)] B 16385 encT (SS zs) (SP zs) (fun _ => True) I Ix w (some 0) := by
  intro R Rx W hR hRx hRl hRxl hY h0 hr0 hbb
  have HY := hid hY
  have HR : Hid (∀ A A' : World, R A → B + 2 ≤ A.heap.size → But (fun x => x = k) A A' → R A') := fun A A' h1 h2 h3 => hR A A' h1 (Dl2.of_but h3 (by omega) (by omega) (by omega))
  have HV := hid hV
  have HP := hid hP
  have HSK := hid (fun (nn : Nat) (u : World) (a : Nat) (ha : a ≤ zs.length) (hu : Scn u k (strOfNums zs) a) => (callsIn_wide (n := nn)).2 (skip_any hb hl ha hu))
  have HNX := hid (fun (nn : Nat) (u : World) (a c : Nat) (ha : a < zs.length) (hu : Scn u k (strOfNums zs) a) => (callsIn_wide (n := nn)).2 (next_any c hb hl ha hu))
  clear hV hP hY hR hRx hRl hRxl hbb hb
  refine callsIn_of_wp Try.func22 rfl trivial ?_ rfl
  simp only [Try.ntmps22, List.size_toArray, List.length_cons, List.length_nil, Nat.reduceAdd, Nat.reduceSub, Array.replicate_succ, Array.replicate_zero, List.push_toArray, List.append_toArray, List.nil_append, List.cons_append]
  gi_wp2
  gi_loopw [3] (fun cv wr => ∃ (a : Nat) (pre : List (Tk × Int)), cv = .int .i64 (pre.length : Int) ∧ Good zs a pre ∧ I (some a) pre wr ∧ R wr) (fun _ wr => zs.length - atN wr k)
  case atStart => exact ⟨0, [], rfl, Good.zero zs, h0, hr0⟩
  case round =>
    clear h0 hr0
    obtain ⟨a, pre, rfl, hG, hI, hRr⟩ := hrel
    obtain ⟨hS, hc, hsz⟩ := HV.out _ _ _ hI
    have hfew : (pre.length : Int) ≤ 16384 := by have := hG.few; omega
    have hat : atN wr k = a := by unfold atN; rw [hS.c1]; simp
    have H23 := hid (fun nn => HSK.out nn wr a hG.le hS)
    by_cases q : skA false zs a < zs.length
    · rw [decide_eq_true q] at H23
      obtain ⟨p, hp⟩ : ∃ p, p = skA false zs a := ⟨_, rfl⟩
      have hpa : a ≤ p := by rw [hp]; exact skA_ge _ _ _
      obtain ⟨r, hr⟩ : ∃ r, r = nxtA zs p pre.length := ⟨_, rfl⟩
      have hok : r.2.2 = 0 → p < r.2.1 ∧ r.2.1 ≤ zs.length := fun h => by rw [hr] at h ⊢; exact nxtA_ok (by rw [hp]; exact q) h
      have hnx : r.2.2 = 0 → Good zs r.2.1 (pre ++ [itm zs a pre.length]) := fun h => by
        rw [hr, hp] at h ⊢
        exact hG.next q h
      have hsp : ∀ cc, SP zs cc (pre ++ [itm zs a pre.length]) := fun _ => ⟨a, pre, rfl, hG, q⟩
      have hx : itm zs a pre.length = (r.1, r.2.2) := by rw [hr, hp]; rfl
      have HQ : Hid (∀ w1, But (fun x => x = k) wr w1 → Scn w1 k (strOfNums zs) (skA false zs a) → w1.heap.size = wr.heap.size → w1.cell? ⟨Bs, 0, none⟩ = some (.pointer (some ⟨k, 0, none⟩)) ∧ ∀ nn, CallsIn Fence.wide nn Try.prog 24 #[.pointer (some ⟨k, 0, none⟩), .int .i64 (pre.length : Int)] w1 fun e w2 => e = .returned (.tuple #[tokV r.1, .int .i64 r.2.2]) ∧
          ∀ o, YieldAt Fence.wide (n - 1) Try.prog (B + 1) (encT (itm zs a pre.length)) (w2.alloc o) fun e A' => (e = .returned (.bool true) ∧ I (if r.2.2 = 0 then some r.2.1 else none) (pre ++ [itm zs a pre.length]) A' ∧ R A') ∨ (e = .returned (.bool false) ∧ ∃ c, Ix (if r.2.2 = 0 then some r.2.1 else none) c (pre ++ [itm zs a pre.length]) A' ∧ Rx c A')) := fun w1 h1 h2 h3 => by
        refine ⟨(h1.cell (p := ⟨Bs, 0, none⟩) (by show Bs < _; omega) (by show ¬ Bs = k; exact hne)).trans hc, fun nn => (HNX.out nn w1 _ pre.length q h2).mono ?_⟩
        rintro e w2 ⟨rfl, h4, h5⟩
        rw [← hp, ← hr] at h4 ⊢
        refine ⟨rfl, fun o => ?_⟩
        have hbA : But (fun x => x = k) wr (w2.alloc o) := (h1.trans h5).alloc o
        refine HY.out _ pre _ _ trivial (HP.out a _ pre wr _ hI hbA (fun b e => ?_)) (HR.out _ _ hRr hsz hbA) (by have := hG.few; omega)
        by_cases h0 : r.2.2 = 0
        · rw [if_pos h0] at e
          cases e
          exact (h4 h0).alloc o
        · rw [if_neg h0] at e
          cases e
      clear hI hRr hS hG hr hp
      rw [hx] at HQ hnx hsp
      obtain ⟨⟨tk, tl, tn, ta⟩, to, c⟩ := r
      simp only at hok hnx hsp HQ hx
      unfold encT tokV at HQ
      simp only at HQ
      have HOK := hid hok
      have HNXT := hid hnx
      have HSP := hid hsp
      have HPA := hid hpa
      clear hok hnx hsp hx hpa
      generalize strOfNums tl = U at *
      generalize hSS : strOfNums zs = S at *
      have HSS := hid hSS
      clear hSS
      by_cases h0 : c = 0
      · subst h0
        rw [if_pos rfl] at HQ
        gi_wp2_with (refine ⟨trivial, ?_⟩; gi_at_call 23; with_reducible refine (H23.out _).mono ?_; rintro e w1 ⟨rfl, h1, h2, h3⟩; have HQ1 := hid (HQ.out w1 h2 h1 h3); have hcb := HQ1.out.1; clear h1 h2 h3)
        refine ⟨trivial, ?_⟩
        refine (HQ1.out.2 _).mono ?_
        rintro e w2 ⟨rfl, hy0⟩
        obtain ⟨fn, tmps, assign, body, hy, hRd⟩ := hy0 (.cells #[.int .i64 tk, .string U, .int .i64 tn, .int .i64 ta] 29)
        clear hy0
        gi_wp2
        refine hRd.mono ?_
        rintro e W3 (⟨rfl, q1, q2⟩ | ⟨rfl, c, q1, q2⟩)
        · have Q1 := hid q1
          have Q2 := hid q2
          clear q1 q2 hy hRd
          gi_wp2
          go_roundw
          case rel => exact ⟨to, _, by simp, HNXT.out trivial, Q1.out, Q2.out⟩
          case measure =>
            have e : atN W3 k = to := by unfold atN; rw [(HV.out _ _ _ Q1.out).1.c1]; simp
            rw [hat, e]
            have h1 := HOK.out trivial
            have h2 := HPA.out
            omega
        · have Q1 := hid q1
          have Q2 := hid q2
          clear q1 q2 hy hRd
          gi_wp2
          refine bodyPost_ret (results_none rfl _ _ _) rfl ?_
          exact ⟨⟨_, rfl⟩, .inr ⟨_, _, c, HSP.out _, Q1.out, Q2.out⟩⟩
      · rw [if_neg h0] at HQ
        gi_wp2_with (refine ⟨trivial, ?_⟩; gi_at_call 23; with_reducible refine (H23.out _).mono ?_; rintro e w1 ⟨rfl, h1, h2, h3⟩; have HQ1 := hid (HQ.out w1 h2 h1 h3); have hcb := HQ1.out.1; clear h1 h2 h3)
        refine ⟨trivial, ?_⟩
        refine (HQ1.out.2 _).mono ?_
        rintro e w2 ⟨rfl, hy0⟩
        obtain ⟨fn, tmps, assign, body, hy, hRd⟩ := hy0 (.cells #[.int .i64 tk, .string U, .int .i64 tn, .int .i64 ta] 29)
        clear hy0
        gi_wp2
        refine hRd.mono ?_
        rintro e W3 (⟨rfl, q1, q2⟩ | ⟨rfl, c, q1, q2⟩)
        · have Q1 := hid q1
          have Q2 := hid q2
          clear q1 q2 hy hRd
          gi_wp2
          refine bodyPost_ret (results_none rfl _ _ _) rfl ?_
          exact ⟨⟨_, rfl⟩, .inl ⟨_, _, .inr ⟨_, List.mem_append.2 (.inr (List.mem_singleton.2 rfl)), h0⟩, Q1.out, Q2.out⟩⟩
        · have Q1 := hid q1
          have Q2 := hid q2
          clear q1 q2 hy hRd
          gi_wp2
          refine bodyPost_ret (results_none rfl _ _ _) rfl ?_
          exact ⟨⟨_, rfl⟩, .inr ⟨_, _, _, HSP.out _, Q1.out, Q2.out⟩⟩
    · rw [decide_eq_false q] at H23
      have HF : Hid (∀ w1, But (fun x => x = k) wr w1 → Scn w1 k (strOfNums zs) (skA false zs a) → SS zs (some (skA false zs a)) pre ∧ I (some (skA false zs a)) pre w1 ∧ R w1) := fun w1 h1 h2 => by
        refine ⟨.inl ⟨_, rfl, ⟨hG.ok, skA_le hG.le, hG.few, ?_⟩, ?_⟩, HP.out _ _ _ _ _ hI h1 (fun b e => by cases e; exact h2), HR.out _ _ hRr hsz h1⟩
        · rw [← hG.val]
          congr 1
          exact lexA_skip (skA_le hG.le) a hG.le (by rw [skA_end (by omega)])
        · rw [skA_end (by omega)]; omega
      clear hI hRr hS hG
      gi_wp2_with (refine ⟨trivial, ?_⟩; gi_at_call 23; with_reducible refine (H23.out _).mono ?_; rintro e w1 ⟨rfl, h1, h2, h3⟩; have HFF := hid (HF.out w1 h2 h1); clear h1 h2 h3)
      go_end0
      exact ⟨⟨_, rfl⟩, .inl ⟨_, _, HFF.out⟩⟩

end Go.Proofs.Ytoifmiloaefanaa
