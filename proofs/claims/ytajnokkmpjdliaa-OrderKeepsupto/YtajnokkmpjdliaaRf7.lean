/-
  The document's order.
-/
import Derived.Test.YtajnokkmpjdliaaRf6
namespace Go.Proofs.Ytajnokkmpjdliaa
open Go.RowKit

theorem hd_bound (E : List (Nat × Nat)) (x : Nat) : ∀ k, hd (chn E x k) + 1 ≤ (k : Int) := fun k => by
  cases hk9 : chn E x k with
  | nil => show (-1 : Int) + 1 ≤ _; omega
  | cons j r => have := (chn_cons hk9).1; show (j : Int) + 1 ≤ _; omega
theorem mea_in (E : List (Nat × Nat)) (x i : Nat) : (intOf (.int .i64 (hd (chn E x i) + 1))).toNat < (intOf (.int .i64 ((i : Int) + 1))).toNat := by
  have := hd_bound E x i
  simp only [intOf]
  omega
theorem mea_out {n L : Nat} {a : Option Addr} {c g c2 : Nat} (h : L < n) : n - lenS (.slice (some ⟨g, 0, none⟩) (L + 1) c2) < n - lenS (.slice a L c) := by
  simp only [lenS]
  omega

theorem pred_wr (i : Nat) (h : i ≤ 1048576) : wrap64 ((i : Int) + 1 - 1) = (i : Int) ∧ IntKind.i64.wrap ((i : Int) + 1 - 1) = (i : Int) ∧ wrap64 (i : Int) = (i : Int) ∧ IntKind.i64.wrap (i : Int) = (i : Int) := ⟨by rw [w64 _ (by omega)]; omega, by rw [iw64 _ (by omega)]; omega, w64 _ (by omega), iw64 _ (by omega)⟩
set_option maxRecDepth 100000 in
set_option maxHeartbeats 8000000 in
theorem refOrder_any (m c : Nat) (a : Option Addr) (s : Int) (Z : List (Int × Int)) (hm : m ≤ 1048576) (w : World) (hRZ : RdZ w a m Z) :
    Calls Try.prog 18 #[.int .i64 s, .slice a m c] w (OrQ s Z w) := by
  obtain ⟨PO, hPO⟩ : ∃ PO, PO = OrQ s Z w := ⟨_, rfl⟩
  rw [← hPO]
  by_cases p : okZ s Z = true
  · obtain ⟨n, hn⟩ : ∃ n, n = s.toNat := ⟨_, rfl⟩
    have hok := okZ_iff.1 p
    have hsn : s = (n : Int) := by omega
    obtain ⟨E, hEd⟩ : ∃ E, E = toN Z := ⟨_, rfl⟩
    have HPOa : Hid (∀ ov w', (ordP n E).length = n → w'.ownsRow w.heap.size 3 1 ov (ordP n E).length ((ordP n E).map fun (k : Nat) => Value.int .i64 (k : Int)) → Below w.heap.size w w' → PO (.returned (.tuple #[ov, .int .i64 0])) w') := fun ov w' h1 h2 h3 => by
      rw [hPO]
      have e : orX s Z = (ordP n E, 0) := by
        unfold orX
        rw [if_pos p, ← hn, ← hEd, if_neg (by omega)]
      unfold OrQ
      rw [e]
      exact ⟨ov, rfl, h2, h3⟩
    have HPOb : Hid (∀ w', (ordP n E).length < n → Below w.heap.size w w' → PO (.returned (.tuple #[.slice none 0 0, .int .i64 241])) w') := fun w' h1 h3 => by
      rw [hPO]
      have e : orX s Z = ([], 241) := by
        unfold orX
        rw [if_pos p, ← hn, ← hEd, if_pos h1]
      unfold OrQ
      rw [e]
      exact ⟨_, rfl, ⟨rfl, .inl ⟨rfl, rfl⟩⟩, h3⟩
    have hE : EdOk n E := by rw [hn, hEd]; exact okZ.ed p
    have hR : RdE w a m E := by rw [hEd]; exact hRZ.toE p
    have hn1 : n ≤ 1048576 := by omega
    have HBad : Hid (Calls Try.prog 24 #[.int .i64 (n : Int), .slice a m c] w fun e w' => e = .returned (.bool false) ∧ w' = w) := by
      have := bad_any m c a s Z hm w hRZ
      rw [p, hsn] at this
      exact this
    have HHp := hid (heap_any n m c a E hn1 hm w hR hE)
    obtain ⟨B, hB⟩ : ∃ B, B = w.heap.size := ⟨_, rfl⟩
    have HB := hid hB
    have HR : Hid (∀ W, Below B w W → RdE W a m E) := fun W hb => hR.next (by rw [← hB]; exact hb)
    have HE := hid hE
    have HEl : Hid (E.length = m) := hR.1
    have HM := hid hm
    have HN := hid hn1
    clear hPO hRZ hok hn hEd hE hR hB p hm hn1
    subst hsn
    go_enter Try.func18, Try.ntmps18
    go_wp2_with fail
    go_at_call 24
    refine Calls.mono HBad.out ?_
    rintro e wq ⟨rfl, hw0⟩
    have hw0 := hw0.symm
    subst hw0
    go_wp2_with fail
    go_at_call 25
    refine Calls.mono HHp.out ?_
    rintro e w1 ⟨Hb, lb, eb, tb, ib, xb, ls, fw, lt, fs, nx, rfl, h1, h2, h3, h4, h5, h6⟩
    have HGP := hid h4
    have HI0 : Hid (IT B w n m E Hb lb eb tb ib xb fs nx [] (.slice none 0 0) [] ls fw lt w1) := by
      refine ⟨DS.start (by rw [HEl.out]; exact h2), h3, h1, ⟨rfl, .inl ⟨rfl, rfl⟩⟩, by simp [Value.ownBlock], by rw [HB.out]; exact h5, by rw [HB.out]; exact h6⟩
    clear h1 h2 h3 h4 h5 h6 HHp HBad
    go_wp2_with fail
    go_loopw [7] (fun iv wr => ∃ (out : List Nat) (L : Nat) (ao : Option Addr) (co : Nat) (ls fw lt : List Int), iv = .slice ao L co ∧ out.length = L ∧ IT B w n m E Hb lb eb tb ib xb fs nx out (.slice ao L co) [] ls fw lt wr) (fun iv _ => n - lenS iv)
    case atStart => exact ⟨[], 0, none, 0, _, _, _, rfl, rfl, HI0.out⟩
    case round =>
      clear HI0 ls fw lt
      obtain ⟨out, L, ao, co, ls, fw, lt, rfl, hL, hI⟩ := hrel
      have hLn : L ≤ n := by rw [← hL]; exact hI.ds.kn.len
      by_cases q : L = n
      · have HD : Hid (PO (.returned (.tuple #[.slice ao L co, .int .i64 0])) wr) := by
          have hf := hI.ds.kn.full (by rw [hL]; exact q)
          refine HPOa.out _ _ (by rw [hf, hL]; exact q) ?_ (by rw [← HB.out]; exact hI.bel)
          rw [hf, ← HB.out]
          exact hI.ow
        have qq : (n : Int) ≤ (L : Int) := by omega
        clear hI hL hLn q
        go_wp2_with fail
        exact HD.out
      · have qq : (L : Int) < (n : Int) := by omega
        have hLl : L < n := by omega
        have HLe := hid (least_any Hb lb eb tb ib xb n m ls fw lt fs nx HN.out wr hI.hm hI.rs)
        have c0 := hI.hm.cells.1
        have HI := hid hI
        have HL := hid hL
        clear hI hL hLn q
        go_wp2_with fail
        go_at_call 26
        refine Calls.mono HLe.out ?_
        rintro e wq ⟨hw0, hcase⟩
        subst hw0
        rcases hcase with ⟨x, rfl, hx, hx0, hxl⟩ | ⟨rfl, hno⟩
        · have hn1 := HN.out
          have hln := HI.out.rs.l
          have d1 := HI.out.hm.l.cell x (by rw [hln]; exact hx)
          have d2 := HI.out.hm.l.frozen x
          obtain ⟨o1, ho1⟩ : ∃ o1, o1 = ls.getD x 0 := ⟨_, rfl⟩
          rw [← ho1] at d1
          obtain ⟨hH1, hT⟩ := HI.out.take HE.out HEl.out x hx hx0 hxl
          have hbd := HI.out.rs.bounds
          have HRy : Hid (Calls Try.prog 27 #[.pointer (some ⟨Hb, 0, none⟩), .int .i64 (x : Int), .int .i64 (-1)] (wq.setCell ⟨lb, x, none⟩ (.int .i64 (-1))) fun e u2 => e = .returned (.tuple #[]) ∧ ∃ go co2 u3 fw' lt', (Builtin.append_ #[23, 23] 23 #[.slice ao L co, .slice (some ⟨u2.heap.size, 0, none⟩) 1 1]).run Try.prog (u2.alloc (.cells #[.int .i64 (x : Int)] 3)) = .ok (.slice (some ⟨go, 0, none⟩) (L + 1) co2) u3 ∧ IT B w n m E Hb lb eb tb ib xb fs nx (out ++ [x]) (.slice (some ⟨go, 0, none⟩) (L + 1) co2) (chn E x m) (ls.set x (-1)) fw' lt' u3) := by
            refine (ready_any Hb lb eb tb ib xb n m x (ls.set x (-1)) fw lt fs nx (-1) (by omega) hx hn1 _ hH1 HI.out.rs.fl HI.out.rs.tl (by have := hbd.1 (x / 64) (by omega); omega) (by have := hbd.2 (x / 4096) (by omega); omega)).mono ?_
            intro e u2 hq
            obtain ⟨he, hs2, hrow, hT3⟩ := hT e u2 hq
            have hL := HL.out
            rw [hL] at hrow hT3
            obtain ⟨go, co2, u3, hr, r1, r2, r3⟩ := push_runs 23 Try.underlying23 B ao L co (out.map fun (k : Nat) => (k : Int)) (x : Int) (by rw [List.length_map]; exact hL) (by omega) u2 hs2 hrow
            obtain ⟨fw', lt', hIT⟩ := hT3 go co2 u3 r1 r2 r3
            exact ⟨he, go, co2, u3, fw', lt', hr, hIT⟩
          have q1 : (x : Int) < (n : Int) := by omega
          have q2 : 0 ≤ (x : Int) := by omega
          have q3 : ¬ (x : Int) < 0 := by omega
          have HX : Hid (x < n ∧ L < n) := ⟨hx, hLl⟩
          clear hx hx0 hxl hLl hln ho1 hH1 hT hbd HLe HI
          go_wp2_with fail
          go_at_call 27
          refine Calls.mono HRy.out ?_
          rintro e u2 ⟨rfl, go, co2, u3, fw1, lt1, hrun, hI3⟩
          have HI3 := hid hI3
          have f1 := hI3.hm.cells.2.2.2.1
          have f2 := hI3.hm.i.cell x (by rw [HGP.out.fl]; exact HX.out.1)
          obtain ⟨z1, hz1⟩ : ∃ z1, z1 = hd (chn E x m) + 1 := ⟨_, rfl⟩
          rw [show fs.getD x 0 = z1 from by rw [hz1]; exact HGP.out.f x HX.out.1] at f2
          have HZ1 := hid hz1
          clear hI3 HRy d1 d2 c0 hz1
          go_wp2_with (at_builtin; refine Lib.wpList_append_run _ rfl _ _ _ _ rfl _ _ rfl rfl _ _ hrun ?_)
          clear hrun f1 f2
          go_loopw [9] (fun iv wr => ∃ (k : Nat) (ls fw lt : List Int), iv = .int .i64 (hd (chn E x k) + 1) ∧ k ≤ m ∧ IT B w n m E Hb lb eb tb ib xb fs nx (out ++ [x]) (.slice (some ⟨go, 0, none⟩) (L + 1) co2) (chn E x k) ls fw lt wr) (fun iv _ => (intOf iv).toNat)
          case atStart => exact ⟨m, _, _, _, by rw [HZ1.out], Nat.le_refl _, HI3.out⟩
          case round =>
            clear HI3 HZ1 ls fw lt fw1 lt1
            obtain ⟨k, ls, fw, lt, rfl, hk, hI⟩ := hrel
            cases hr : chn E x k with
            | nil =>
              rw [hr] at hI
              have HI := hid hI
              have e0 : hd ([] : List Nat) + 1 = 0 := rfl
              rw [e0]
              have HLL : Hid ((out ++ [x]).length = L + 1) := by rw [List.length_append, List.length_singleton, HL.out]; rfl
              clear hI hr
              go_wp2_with fail
              refine ⟨⟨out ++ [x], L + 1, some ⟨go, 0, none⟩, co2, _, _, _, rfl, HLL.out, HI.out⟩, ?_⟩
              exact mea_out HX.out.2
            | cons i rest =>
              obtain ⟨h1, h2, h3⟩ := chn_cons hr
              rw [hr] at hI
              have e0 : hd (i :: rest) + 1 = (i : Int) + 1 := rfl
              rw [e0]
              have hm1 := HM.out
              obtain ⟨g, off, ha, _, c2⟩ := (HR.out wr hI.bel).2 i (by omega)
              obtain ⟨y, hy⟩ : ∃ y, y = (eg E i).2 := ⟨_, rfl⟩
              rw [← hy] at c2
              obtain ⟨u, hu⟩ : ∃ u, u = gt ls y := ⟨_, rfl⟩
              obtain ⟨v, hv⟩ : ∃ v, v = u - 1 := ⟨_, rfl⟩
              obtain ⟨hyn, hu1, hH2, hn0, hy0⟩ := hI.step y hy u v hu hv
              have hub : u ≤ 2097152 := by
                have h9 := hI.ds.v y hyn (by rw [hy]; exact (hI.ds.rs i List.mem_cons_self).2)
                rw [← hu] at h9
                have h8 := List.countP_le_length (p := fun e => decide (e.2 = y) && !(out ++ [x]).contains e.1) (l := E)
                have h7 := List.countP_le_length (p := fun i => decide ((eg E i).2 = y)) (l := i :: rest)
                have h6 := HEl.out
                have h5 := chn_len E x k
                rw [hr] at h5
                rw [List.length_cons] at h7 h5
                exact le_2m h9 h8 h7 h6 hm1 (by omega)
              have d1 := hI.hm.cells.1
              have d2 := hI.hm.l.cell y (by rw [hI.rs.l]; exact hyn)
              rw [show ls.getD y 0 = u from hu.symm] at d2
              have d3 := hI.hm.l.frozen y
              have HS16 : Hid ((fun q => q.cell? ⟨Hb, 0, none⟩ = some (.slice (some ⟨lb, 0, none⟩) n n) ∧ q.cell? ⟨lb, y, none⟩ = some (.int .i64 u)) wr.drew) := ⟨d1, d2⟩
              obtain ⟨W1, hW1⟩ : ∃ W1, W1 = (wr.setCell ⟨lb, y, none⟩ (.int .i64 v)).drew := ⟨_, rfl⟩
              rw [← hW1] at hH2 hn0 hy0
              have f0 := hH2.cells.1
              have f1 := hH2.l.cell y (by rw [List.length_set, hI.rs.l]; exact hyn)
              rw [show (ls.set y v).getD y 0 = v from by have := gt_set ls y y v (by rw [hI.rs.l]; exact hyn); rw [if_pos rfl] at this; exact this] at f1
              have q1 : (y : Int) < (n : Int) := by omega
              have q2 : 0 ≤ (y : Int) := by omega
              have q3 : (i : Int) < (m : Int) := by omega
              have q4 : 0 ≤ (i : Int) := by omega
              have q5 : 0 < (i : Int) + 1 := by omega
              obtain ⟨z2, hz2⟩ : ∃ z2, z2 = hd (chn E x i) + 1 := ⟨_, rfl⟩
              have hnxv : nx.getD i 0 = z2 := by
                have := HGP.out.x i (by omega)
                rw [h2, ← hz2] at this
                exact this
              have HZ2 := hid hz2
              have hi9 : i < m := by omega
              have HK : Hid (i ≤ m ∧ rest = chn E x i) := ⟨by omega, h3⟩
              have hn9 := HN.out
              by_cases pv : v = 0
              · have hbd := hI.rs.bounds
                have HRy : Hid (Calls Try.prog 27 #[.pointer (some ⟨Hb, 0, none⟩), .int .i64 (y : Int), .int .i64 1] W1 fun e W2 => e = .returned (.tuple #[]) ∧ W2.cell? ⟨Hb, 4, none⟩ = some (.slice (some ⟨xb, 0, none⟩) m m) ∧ W2.cell? ⟨xb, i, none⟩ = some (.int .i64 z2) ∧ ∃ fw' lt', IT B w n m E Hb lb eb tb ib xb fs nx (out ++ [x]) (.slice (some ⟨go, 0, none⟩) (L + 1) co2) rest (ls.set y v) fw' lt' W2) := by
                  refine (ready_any Hb lb eb tb ib xb n m y (ls.set y v) fw lt fs nx 1 (by omega) hyn hn9 W1 hH2 hI.rs.fl hI.rs.tl (by have := hbd.1 (y / 64) (by omega); omega) (by have := hbd.2 (y / 4096) (by omega); omega)).mono ?_
                  intro e W2 hq
                  obtain ⟨he, fw', lt', hIT⟩ := hy0 pv e W2 hq
                  have := hIT.hm.x.cell i (by rw [HGP.out.nl]; exact hi9)
                  rw [hnxv] at this
                  exact ⟨he, hIT.hm.cells.2.2.2.2, this, fw', lt', hIT⟩
                have HW1 := hid hW1
                obtain ⟨e3, e4⟩ := sub_wraps u v hu1 hub hv
                obtain ⟨e5, e6, e7, e8⟩ := pred_wr i (by omega)
                subst pv
                clear hI hr h1 h2 h3 hy hu hv hyn hu1 hH2 hn0 hy0 hub hW1 hz2 hnxv hbd hm1 hn9 hk hi9
                subst ha
                go_wp2_with fail
                refine wp_region_last (S := (fun q => q.cell? ⟨Hb, 0, none⟩ = some (.slice (some ⟨lb, 0, none⟩) n n) ∧ q.cell? ⟨lb, y, none⟩ = some (.int .i64 u))) 14 14 (by kernel_rfl) (by kernel_rfl) (by kernel_rfl) HS16.out (fun hSS => ?_)
                refine wpAnyH_take (i := 0) (oi := ({ dst := some 61, op := Op.move (Operand.tmp 6), type := 49, pos := _, after := _, guard := none } : Oper)) (v := ?_) rfl (by kernel_rfl) (by kernel_rfl) (by kernel_rfl) (fun _ _ _ h => h) (Or.inl ⟨by rfl, ?_⟩) hSS ?_
                rotate_left
                · intro w9 hSw
                  (try dsimp only at hSw)
                  (try go_split_ands)
                  first | (go_simp; done) | (go_simp; with_reducible rfl)
                try simp only [Act.put, List.setIfInBounds_toArray, List.set_cons_zero, List.set_cons_succ]
                refine wpAnyH_take (i := 1) (oi := ({ dst := some 62, op := Op.nilCheck (Operand.tmp 61), type := 0, pos := _, after := _, guard := none } : Oper)) (v := ?_) rfl (by kernel_rfl) (by kernel_rfl) (by kernel_rfl) (fun _ _ _ h => h) (Or.inl ⟨by rfl, ?_⟩) hSS ?_
                rotate_left
                · intro w9 hSw
                  (try dsimp only at hSw)
                  (try go_split_ands)
                  first | (go_simp; done) | (go_simp; with_reducible rfl)
                try simp only [Act.put, List.setIfInBounds_toArray, List.set_cons_zero, List.set_cons_succ]
                refine wpAnyH_take (i := 2) (oi := ({ dst := some 63, op := Op.fieldAddr 53 (Operand.tmp 62) 0, type := 0, pos := _, after := _, guard := none } : Oper)) (v := ?_) rfl (by kernel_rfl) (by kernel_rfl) (by kernel_rfl) (fun _ _ _ h => h) (Or.inl ⟨by rfl, ?_⟩) hSS ?_
                rotate_left
                · intro w9 hSw
                  (try dsimp only at hSw)
                  (try go_split_ands)
                  first | (go_simp; done) | (go_simp; with_reducible rfl)
                try simp only [Act.put, List.setIfInBounds_toArray, List.set_cons_zero, List.set_cons_succ]
                refine wpAnyH_take (i := 3) (oi := ({ dst := some 64, op := Op.load 23 (Operand.tmp 63), type := 23, pos := _, after := _, guard := none } : Oper)) (v := ?_) rfl (by kernel_rfl) (by kernel_rfl) (by kernel_rfl) (fun _ _ _ h => h) (Or.inl ⟨by rfl, ?_⟩) hSS ?_
                rotate_left
                · intro w9 hSw
                  (try dsimp only at hSw)
                  (try go_split_ands)
                  first | (go_simp; done) | (go_simp; with_reducible rfl)
                try simp only [Act.put, List.setIfInBounds_toArray, List.set_cons_zero, List.set_cons_succ]
                refine wpAnyH_take (i := 4) (oi := ({ dst := some 65, op := Op.move (Operand.tmp 10), type := 3, pos := _, after := _, guard := none } : Oper)) (v := ?_) rfl (by kernel_rfl) (by kernel_rfl) (by kernel_rfl) (fun _ _ _ h => h) (Or.inl ⟨by rfl, ?_⟩) hSS ?_
                rotate_left
                · intro w9 hSw
                  (try dsimp only at hSw)
                  (try go_split_ands)
                  first | (go_simp; done) | (go_simp; with_reducible rfl)
                try simp only [Act.put, List.setIfInBounds_toArray, List.set_cons_zero, List.set_cons_succ]
                refine wpAnyH_take (i := 5) (oi := ({ dst := some 66, op := Op.move (Operand.tmp 6), type := 49, pos := _, after := _, guard := none } : Oper)) (v := ?_) rfl (by kernel_rfl) (by kernel_rfl) (by kernel_rfl) (fun _ _ _ h => h) (Or.inl ⟨by rfl, ?_⟩) hSS ?_
                rotate_left
                · intro w9 hSw
                  (try dsimp only at hSw)
                  (try go_split_ands)
                  first | (go_simp; done) | (go_simp; with_reducible rfl)
                try simp only [Act.put, List.setIfInBounds_toArray, List.set_cons_zero, List.set_cons_succ]
                refine wpAnyH_take (i := 6) (oi := ({ dst := some 67, op := Op.nilCheck (Operand.tmp 66), type := 0, pos := _, after := _, guard := none } : Oper)) (v := ?_) rfl (by kernel_rfl) (by kernel_rfl) (by kernel_rfl) (fun _ _ _ h => h) (Or.inl ⟨by rfl, ?_⟩) hSS ?_
                rotate_left
                · intro w9 hSw
                  (try dsimp only at hSw)
                  (try go_split_ands)
                  first | (go_simp; done) | (go_simp; with_reducible rfl)
                try simp only [Act.put, List.setIfInBounds_toArray, List.set_cons_zero, List.set_cons_succ]
                refine wpAnyH_take (i := 7) (oi := ({ dst := some 68, op := Op.fieldAddr 53 (Operand.tmp 67) 0, type := 0, pos := _, after := _, guard := none } : Oper)) (v := ?_) rfl (by kernel_rfl) (by kernel_rfl) (by kernel_rfl) (fun _ _ _ h => h) (Or.inl ⟨by rfl, ?_⟩) hSS ?_
                rotate_left
                · intro w9 hSw
                  (try dsimp only at hSw)
                  (try go_split_ands)
                  first | (go_simp; done) | (go_simp; with_reducible rfl)
                try simp only [Act.put, List.setIfInBounds_toArray, List.set_cons_zero, List.set_cons_succ]
                refine wpAnyH_take (i := 8) (oi := ({ dst := some 69, op := Op.load 23 (Operand.tmp 68), type := 23, pos := _, after := _, guard := none } : Oper)) (v := ?_) rfl (by kernel_rfl) (by kernel_rfl) (by kernel_rfl) (fun _ _ _ h => h) (Or.inl ⟨by rfl, ?_⟩) hSS ?_
                rotate_left
                · intro w9 hSw
                  (try dsimp only at hSw)
                  (try go_split_ands)
                  first | (go_simp; done) | (go_simp; with_reducible rfl)
                try simp only [Act.put, List.setIfInBounds_toArray, List.set_cons_zero, List.set_cons_succ]
                refine wpAnyH_take (i := 9) (oi := ({ dst := some 70, op := Op.move (Operand.tmp 10), type := 3, pos := _, after := _, guard := none } : Oper)) (v := ?_) rfl (by kernel_rfl) (by kernel_rfl) (by kernel_rfl) (fun _ _ _ h => h) (Or.inl ⟨by rfl, ?_⟩) hSS ?_
                rotate_left
                · intro w9 hSw
                  (try dsimp only at hSw)
                  (try go_split_ands)
                  first | (go_simp; done) | (go_simp; with_reducible rfl)
                try simp only [Act.put, List.setIfInBounds_toArray, List.set_cons_zero, List.set_cons_succ]
                refine wpAnyH_take (i := 10) (oi := ({ dst := some 71, op := Op.indexAddr 23 (Operand.tmp 69) (Operand.tmp 70), type := 0, pos := _, after := _, guard := none } : Oper)) (v := ?_) rfl (by kernel_rfl) (by kernel_rfl) (by kernel_rfl) (fun _ _ _ h => h) (Or.inl ⟨by rfl, ?_⟩) hSS ?_
                rotate_left
                · intro w9 hSw
                  (try dsimp only at hSw)
                  (try go_split_ands)
                  first | (go_simp; done) | (go_simp; with_reducible rfl)
                try simp only [Act.put, List.setIfInBounds_toArray, List.set_cons_zero, List.set_cons_succ]
                refine wpAnyH_take (i := 11) (oi := ({ dst := some 72, op := Op.load 3 (Operand.tmp 71), type := 3, pos := _, after := _, guard := none } : Oper)) (v := ?_) rfl (by kernel_rfl) (by kernel_rfl) (by kernel_rfl) (fun _ _ _ h => h) (Or.inl ⟨by rfl, ?_⟩) hSS ?_
                rotate_left
                · intro w9 hSw
                  (try dsimp only at hSw)
                  (try go_split_ands)
                  first | (go_simp; done) | (go_simp; with_reducible rfl)
                try simp only [Act.put, List.setIfInBounds_toArray, List.set_cons_zero, List.set_cons_succ]
                refine wpAnyH_take (i := 12) (oi := ({ dst := some 73, op := Op.binOp BinOp.sub 3 (Operand.tmp 72) (Operand.const (Value.int IntKind.i64 1)) 3, type := 3, pos := _, after := _, guard := none } : Oper)) (v := ?_) rfl (by kernel_rfl) (by kernel_rfl) (by kernel_rfl) (fun _ _ _ h => h) (Or.inl ⟨by rfl, ?_⟩) hSS ?_
                rotate_left
                · intro w9 hSw
                  (try dsimp only at hSw)
                  (try go_split_ands)
                  first | (go_simp; done) | (go_simp; with_reducible rfl)
                try simp only [Act.put, List.setIfInBounds_toArray, List.set_cons_zero, List.set_cons_succ]
                refine wpAnyH_take (i := 13) (oi := ({ dst := some 74, op := Op.indexAddr 23 (Operand.tmp 64) (Operand.tmp 65), type := 0, pos := _, after := _, guard := none } : Oper)) (v := ?_) rfl (by kernel_rfl) (by kernel_rfl) (by kernel_rfl) (fun _ _ _ h => h) (Or.inl ⟨by rfl, ?_⟩) hSS ?_
                rotate_left
                · intro w9 hSw
                  (try dsimp only at hSw)
                  (try go_split_ands)
                  first | (go_simp; done) | (go_simp; with_reducible rfl)
                try simp only [Act.put, List.setIfInBounds_toArray, List.set_cons_zero, List.set_cons_succ]
                refine wpAnyH_done (by kernel_rfl) ?_ _
                refine last_step (L := 14) (o := ({ dst := none, op := Op.store 3 (Operand.tmp 74) (Operand.tmp 73), type := 0, pos := _, after := _, guard := none } : Oper)) rfl (fun K9 hK9 => ?_)
                go_simp
                refine hK9.out _ _ ?_
                clear hK9 K9
                try simp only [Act.put, List.setIfInBounds_toArray, List.set_cons_zero, List.set_cons_succ]
                rw [← HW1.out]
                go_wp2_with fail
                go_at_call 27
                refine Calls.mono HRy.out ?_
                rintro e W2 ⟨rfl, f4, f5, fw', lt', hIT⟩
                have HIT := hid hIT
                clear hIT HRy
                go_wp2_with fail
                refine ⟨⟨i, _, _, _, by rw [HZ2.out], HK.out.1, by rw [← HK.out.2]; exact HIT.out⟩, ?_⟩
                rw [HZ2.out]
                exact mea_in E x i
              · have hIT := hn0 pv
                have f4 := hIT.hm.cells.2.2.2.2
                have f5 := hIT.hm.x.cell i (by rw [HGP.out.nl]; exact hi9)
                rw [hnxv] at f5
                have HIT := hid hIT
                have HW1 := hid hW1
                obtain ⟨e3, e4⟩ := sub_wraps u v hu1 hub hv
                obtain ⟨e5, e6, e7, e8⟩ := pred_wr i (by omega)
                clear hI hr h1 h2 h3 hy hu hv hyn hu1 hH2 hn0 hy0 hub hW1 hz2 hnxv hm1 hn9 hk hi9 hIT
                subst ha
                go_wp2_with fail
                refine wp_region_last (S := (fun q => q.cell? ⟨Hb, 0, none⟩ = some (.slice (some ⟨lb, 0, none⟩) n n) ∧ q.cell? ⟨lb, y, none⟩ = some (.int .i64 u))) 14 14 (by kernel_rfl) (by kernel_rfl) (by kernel_rfl) HS16.out (fun hSS => ?_)
                refine wpAnyH_take (i := 0) (oi := ({ dst := some 61, op := Op.move (Operand.tmp 6), type := 49, pos := _, after := _, guard := none } : Oper)) (v := ?_) rfl (by kernel_rfl) (by kernel_rfl) (by kernel_rfl) (fun _ _ _ h => h) (Or.inl ⟨by rfl, ?_⟩) hSS ?_
                rotate_left
                · intro w9 hSw
                  (try dsimp only at hSw)
                  (try go_split_ands)
                  first | (go_simp; done) | (go_simp; with_reducible rfl)
                try simp only [Act.put, List.setIfInBounds_toArray, List.set_cons_zero, List.set_cons_succ]
                refine wpAnyH_take (i := 1) (oi := ({ dst := some 62, op := Op.nilCheck (Operand.tmp 61), type := 0, pos := _, after := _, guard := none } : Oper)) (v := ?_) rfl (by kernel_rfl) (by kernel_rfl) (by kernel_rfl) (fun _ _ _ h => h) (Or.inl ⟨by rfl, ?_⟩) hSS ?_
                rotate_left
                · intro w9 hSw
                  (try dsimp only at hSw)
                  (try go_split_ands)
                  first | (go_simp; done) | (go_simp; with_reducible rfl)
                try simp only [Act.put, List.setIfInBounds_toArray, List.set_cons_zero, List.set_cons_succ]
                refine wpAnyH_take (i := 2) (oi := ({ dst := some 63, op := Op.fieldAddr 53 (Operand.tmp 62) 0, type := 0, pos := _, after := _, guard := none } : Oper)) (v := ?_) rfl (by kernel_rfl) (by kernel_rfl) (by kernel_rfl) (fun _ _ _ h => h) (Or.inl ⟨by rfl, ?_⟩) hSS ?_
                rotate_left
                · intro w9 hSw
                  (try dsimp only at hSw)
                  (try go_split_ands)
                  first | (go_simp; done) | (go_simp; with_reducible rfl)
                try simp only [Act.put, List.setIfInBounds_toArray, List.set_cons_zero, List.set_cons_succ]
                refine wpAnyH_take (i := 3) (oi := ({ dst := some 64, op := Op.load 23 (Operand.tmp 63), type := 23, pos := _, after := _, guard := none } : Oper)) (v := ?_) rfl (by kernel_rfl) (by kernel_rfl) (by kernel_rfl) (fun _ _ _ h => h) (Or.inl ⟨by rfl, ?_⟩) hSS ?_
                rotate_left
                · intro w9 hSw
                  (try dsimp only at hSw)
                  (try go_split_ands)
                  first | (go_simp; done) | (go_simp; with_reducible rfl)
                try simp only [Act.put, List.setIfInBounds_toArray, List.set_cons_zero, List.set_cons_succ]
                refine wpAnyH_take (i := 4) (oi := ({ dst := some 65, op := Op.move (Operand.tmp 10), type := 3, pos := _, after := _, guard := none } : Oper)) (v := ?_) rfl (by kernel_rfl) (by kernel_rfl) (by kernel_rfl) (fun _ _ _ h => h) (Or.inl ⟨by rfl, ?_⟩) hSS ?_
                rotate_left
                · intro w9 hSw
                  (try dsimp only at hSw)
                  (try go_split_ands)
                  first | (go_simp; done) | (go_simp; with_reducible rfl)
                try simp only [Act.put, List.setIfInBounds_toArray, List.set_cons_zero, List.set_cons_succ]
                refine wpAnyH_take (i := 5) (oi := ({ dst := some 66, op := Op.move (Operand.tmp 6), type := 49, pos := _, after := _, guard := none } : Oper)) (v := ?_) rfl (by kernel_rfl) (by kernel_rfl) (by kernel_rfl) (fun _ _ _ h => h) (Or.inl ⟨by rfl, ?_⟩) hSS ?_
                rotate_left
                · intro w9 hSw
                  (try dsimp only at hSw)
                  (try go_split_ands)
                  first | (go_simp; done) | (go_simp; with_reducible rfl)
                try simp only [Act.put, List.setIfInBounds_toArray, List.set_cons_zero, List.set_cons_succ]
                refine wpAnyH_take (i := 6) (oi := ({ dst := some 67, op := Op.nilCheck (Operand.tmp 66), type := 0, pos := _, after := _, guard := none } : Oper)) (v := ?_) rfl (by kernel_rfl) (by kernel_rfl) (by kernel_rfl) (fun _ _ _ h => h) (Or.inl ⟨by rfl, ?_⟩) hSS ?_
                rotate_left
                · intro w9 hSw
                  (try dsimp only at hSw)
                  (try go_split_ands)
                  first | (go_simp; done) | (go_simp; with_reducible rfl)
                try simp only [Act.put, List.setIfInBounds_toArray, List.set_cons_zero, List.set_cons_succ]
                refine wpAnyH_take (i := 7) (oi := ({ dst := some 68, op := Op.fieldAddr 53 (Operand.tmp 67) 0, type := 0, pos := _, after := _, guard := none } : Oper)) (v := ?_) rfl (by kernel_rfl) (by kernel_rfl) (by kernel_rfl) (fun _ _ _ h => h) (Or.inl ⟨by rfl, ?_⟩) hSS ?_
                rotate_left
                · intro w9 hSw
                  (try dsimp only at hSw)
                  (try go_split_ands)
                  first | (go_simp; done) | (go_simp; with_reducible rfl)
                try simp only [Act.put, List.setIfInBounds_toArray, List.set_cons_zero, List.set_cons_succ]
                refine wpAnyH_take (i := 8) (oi := ({ dst := some 69, op := Op.load 23 (Operand.tmp 68), type := 23, pos := _, after := _, guard := none } : Oper)) (v := ?_) rfl (by kernel_rfl) (by kernel_rfl) (by kernel_rfl) (fun _ _ _ h => h) (Or.inl ⟨by rfl, ?_⟩) hSS ?_
                rotate_left
                · intro w9 hSw
                  (try dsimp only at hSw)
                  (try go_split_ands)
                  first | (go_simp; done) | (go_simp; with_reducible rfl)
                try simp only [Act.put, List.setIfInBounds_toArray, List.set_cons_zero, List.set_cons_succ]
                refine wpAnyH_take (i := 9) (oi := ({ dst := some 70, op := Op.move (Operand.tmp 10), type := 3, pos := _, after := _, guard := none } : Oper)) (v := ?_) rfl (by kernel_rfl) (by kernel_rfl) (by kernel_rfl) (fun _ _ _ h => h) (Or.inl ⟨by rfl, ?_⟩) hSS ?_
                rotate_left
                · intro w9 hSw
                  (try dsimp only at hSw)
                  (try go_split_ands)
                  first | (go_simp; done) | (go_simp; with_reducible rfl)
                try simp only [Act.put, List.setIfInBounds_toArray, List.set_cons_zero, List.set_cons_succ]
                refine wpAnyH_take (i := 10) (oi := ({ dst := some 71, op := Op.indexAddr 23 (Operand.tmp 69) (Operand.tmp 70), type := 0, pos := _, after := _, guard := none } : Oper)) (v := ?_) rfl (by kernel_rfl) (by kernel_rfl) (by kernel_rfl) (fun _ _ _ h => h) (Or.inl ⟨by rfl, ?_⟩) hSS ?_
                rotate_left
                · intro w9 hSw
                  (try dsimp only at hSw)
                  (try go_split_ands)
                  first | (go_simp; done) | (go_simp; with_reducible rfl)
                try simp only [Act.put, List.setIfInBounds_toArray, List.set_cons_zero, List.set_cons_succ]
                refine wpAnyH_take (i := 11) (oi := ({ dst := some 72, op := Op.load 3 (Operand.tmp 71), type := 3, pos := _, after := _, guard := none } : Oper)) (v := ?_) rfl (by kernel_rfl) (by kernel_rfl) (by kernel_rfl) (fun _ _ _ h => h) (Or.inl ⟨by rfl, ?_⟩) hSS ?_
                rotate_left
                · intro w9 hSw
                  (try dsimp only at hSw)
                  (try go_split_ands)
                  first | (go_simp; done) | (go_simp; with_reducible rfl)
                try simp only [Act.put, List.setIfInBounds_toArray, List.set_cons_zero, List.set_cons_succ]
                refine wpAnyH_take (i := 12) (oi := ({ dst := some 73, op := Op.binOp BinOp.sub 3 (Operand.tmp 72) (Operand.const (Value.int IntKind.i64 1)) 3, type := 3, pos := _, after := _, guard := none } : Oper)) (v := ?_) rfl (by kernel_rfl) (by kernel_rfl) (by kernel_rfl) (fun _ _ _ h => h) (Or.inl ⟨by rfl, ?_⟩) hSS ?_
                rotate_left
                · intro w9 hSw
                  (try dsimp only at hSw)
                  (try go_split_ands)
                  first | (go_simp; done) | (go_simp; with_reducible rfl)
                try simp only [Act.put, List.setIfInBounds_toArray, List.set_cons_zero, List.set_cons_succ]
                refine wpAnyH_take (i := 13) (oi := ({ dst := some 74, op := Op.indexAddr 23 (Operand.tmp 64) (Operand.tmp 65), type := 0, pos := _, after := _, guard := none } : Oper)) (v := ?_) rfl (by kernel_rfl) (by kernel_rfl) (by kernel_rfl) (fun _ _ _ h => h) (Or.inl ⟨by rfl, ?_⟩) hSS ?_
                rotate_left
                · intro w9 hSw
                  (try dsimp only at hSw)
                  (try go_split_ands)
                  first | (go_simp; done) | (go_simp; with_reducible rfl)
                try simp only [Act.put, List.setIfInBounds_toArray, List.set_cons_zero, List.set_cons_succ]
                refine wpAnyH_done (by kernel_rfl) ?_ _
                refine last_step (L := 14) (o := ({ dst := none, op := Op.store 3 (Operand.tmp 74) (Operand.tmp 73), type := 0, pos := _, after := _, guard := none } : Oper)) rfl (fun K9 hK9 => ?_)
                go_simp
                refine hK9.out _ _ ?_
                clear hK9 K9
                try simp only [Act.put, List.setIfInBounds_toArray, List.set_cons_zero, List.set_cons_succ]
                rw [← HW1.out]
                go_wp2_with fail
                refine ⟨⟨i, _, _, _, by rw [HZ2.out], HK.out.1, by rw [← HK.out.2]; exact HIT.out⟩, ?_⟩
                rw [HZ2.out]
                exact mea_in E x i
        · have HD : Hid (PO (.returned (.tuple #[.slice none 0 0, .int .i64 241])) wq) := by
            have ho := HI.out.ds.no hno
            exact HPOb.out _ (by rw [ho, HL.out]; exact hLl) (by rw [← HB.out]; exact HI.out.bel)
          clear HI hno HLe hLl
          go_wp2_with fail
          exact HD.out
  · have HBad : Hid (Calls Try.prog 24 #[.int .i64 s, .slice a m c] w fun e w' => e = .returned (.bool true) ∧ w' = w) := by
      have := bad_any m c a s Z hm w hRZ
      rw [show okZ s Z = false by simpa using p] at this
      exact this
    have HD : Hid (PO (.returned (.tuple #[.slice none 0 0, .int .i64 240])) w) := by
      unfold Hid
      rw [hPO]
      unfold OrQ orX
      rw [if_neg p]
      exact ⟨_, rfl, ⟨rfl, .inl ⟨rfl, rfl⟩⟩, Below.refl _ _⟩
    clear hPO hRZ p hm
    go_enter Try.func18, Try.ntmps18
    go_wp2_with fail
    go_at_call 24
    refine Calls.mono HBad.out ?_
    rintro e wq ⟨rfl, hw0⟩
    have hw0 := hw0.symm
    subst hw0
    go_wp2_with fail
    exact HD.out
end Go.Proofs.Ytajnokkmpjdliaa
