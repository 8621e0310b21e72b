import Derived.Test.YtlefjidbpjkhlaaGreatN19
import Derived.Test.YtlefjidbpjkhlaaGreatN00
import Derived.Test.YtlefjidbpjkhlaaGreatN06
import Derived.Deep.AppendLies
namespace Go.Proofs.YtlefjidbpjkhlaaGreat
open Go.RowKit Go.Deep
theorem neq_tnil (w : World) (a : Addr) : (binOp .neq 30 (.pointer none) (.pointer (some a))).run Tryz.prog w = .ok (.bool true) w := by
 have h : ∀ d : Nat, (Op.equalIn (d + 1) 30 (.pointer none) (.pointer (some a))).run Tryz.prog w = .ok false w := fun d => by
  simp [Op.equalIn, run_underlying Tryz.underlying30]
 simp only [binOp]
 simp [Op.equal, Op.maxDepth, h 9999]
set_option maxRecDepth 100000 in
set_option maxHeartbeats 4000000 in
theorem task_nil (w : World) : Calls Tryz.prog 40 #[.pointer none] w fun e w' => e = .returned (.int .i64 1) ∧ Below w.heap.size w w' := by
 have B : Hid (Below w.heap.size w w) := Below.refl _ _
 go_enter Tryz.func40, Tryz.ntmps40
 go_wp2
 go_ret
 exact ⟨rfl, B.out⟩
set_option maxRecDepth 100000 in
set_option maxHeartbeats 4000000 in
theorem task_off {Z : Nat → Prop} {w : World} {j c p room nb K fr bl : Nat} {d : Pd} {s : Js} (h : Jq Z w j c p room nb K fr bl d s) (hoff : d.off = true) {t st : Nat} {fv wv : Value} (ht : Txb w t j fv st wv) : Calls Tryz.prog 40 #[.pointer (some ⟨t, 0, none⟩)] w fun e w' => e = .returned (.int .i64 24) ∧ Below w.heap.size w w' := by
 have H := hid (power_any h (ht.cell 0))
 rw [hoff] at H
 clear h ht
 go_enter Tryz.func40, Tryz.ntmps40
 go_wp2_with fail
 refine Calls.mono H.out ?_
 rintro e w1 ⟨rfl, b1⟩
 have B1 := hid b1
 clear b1 H
 go_wp2
 go_ret
 exact ⟨rfl, B1.out⟩
set_option maxRecDepth 100000 in
set_option maxHeartbeats 4000000 in
theorem task_over0 {Z : Nat → Prop} {w : World} {j c p room nb K fr bl : Nat} {d : Pd} {s : Js} (h : Jq Z w j c p room nb K fr bl d s) (hon : d.off = false) {t st : Nat} {fv wv : Value} (ht : Txb w t j fv st wv) (hs : Stb w st j (.pointer none)) : Calls Tryz.prog 40 #[.pointer (some ⟨t, 0, none⟩)] w fun e w' => e = .returned (.int .i64 51) ∧ Below w.heap.size w w' := by
 have H := hid (power_any h (ht.cell 0))
 rw [hon] at H
 have HC : Hid (∀ w', Below w.heap.size w w' → w'.cell? ⟨t, 2, none⟩ = some (.pointer (some ⟨st, 0, none⟩)) ∧ w'.cell? ⟨st, 2, none⟩ = some (.pointer none)) := fun w' b => ⟨(b.cell (p := ⟨t, 2, none⟩) ht.lt).trans (ht.cell 2), (b.cell (p := ⟨st, 2, none⟩) hs.lt).trans (hs.cell 2)⟩
 clear h ht hs
 go_enter Tryz.func40, Tryz.ntmps40
 go_wp2_with fail
 refine Calls.mono H.out ?_
 rintro e w1 ⟨rfl, b1⟩
 obtain ⟨c2, c3⟩ := HC.out w1 b1
 have hq := neq_tnil w1 ⟨t, 0, none⟩
 have B1 := hid b1
 clear b1 H HC
 go_wp2
 go_ret
 exact ⟨rfl, B1.out⟩
set_option maxRecDepth 100000 in
set_option maxHeartbeats 4000000 in
theorem task_over1 {Z : Nat → Prop} {w : World} {j c p room nb K fr bl : Nat} {d : Pd} {s : Js} (h : Jq Z w j c p room nb K fr bl d s) (hon : d.off = false) {t st t2 : Nat} {fv wv : Value} (ht : Txb w t j fv st wv) (hs : Stb w st j (.pointer (some ⟨t2, 0, none⟩))) {fv2 wv2 : Value} (ht2 : Txb w t2 j fv2 st wv2) (hne : t2 ≠ t) : Calls Tryz.prog 40 #[.pointer (some ⟨t, 0, none⟩)] w fun e w' => e = .returned (.int .i64 51) ∧ Below w.heap.size w w' := by
 have H := hid (power_any h (ht.cell 0))
 rw [hon] at H
 have HC : Hid (∀ w', Below w.heap.size w w' → w'.cell? ⟨t, 2, none⟩ = some (.pointer (some ⟨st, 0, none⟩)) ∧ w'.cell? ⟨st, 2, none⟩ = some (.pointer (some ⟨t2, 0, none⟩)) ∧ (binOp .neq 30 (.pointer (some ⟨t2, 0, none⟩)) (.pointer (some ⟨t, 0, none⟩))).run Tryz.prog w' = .ok (.bool true) w') := fun w' b => ⟨(b.cell (p := ⟨t, 2, none⟩) ht.lt).trans (ht.cell 2), (b.cell (p := ⟨st, 2, none⟩) hs.lt).trans (hs.cell 2), neq_tother hne (ht2.keep (b.block t2 ht2.lt)) (ht.keep (b.block t ht.lt))⟩
 clear h ht hs ht2
 go_enter Tryz.func40, Tryz.ntmps40
 go_wp2_with fail
 refine Calls.mono H.out ?_
 rintro e w1 ⟨rfl, b1⟩
 obtain ⟨c2, c3, hq⟩ := HC.out w1 b1
 have B1 := hid b1
 clear b1 H HC
 go_wp2
 go_ret
 exact ⟨rfl, B1.out⟩
set_option maxRecDepth 100000 in
set_option maxHeartbeats 4000000 in
theorem sread_no {w : World} {v : Value} {code : Int} (HS : Calls Tryz.prog 37 #[v] w fun e w' => e = .returned (.int .i64 code) ∧ Below w.heap.size w w') (hc : (code != 0) = true) (y : Int) : Calls Tryz.prog 30 #[v, .int .i64 y] w fun e w' => e = .returned (.tuple #[.slice none 0 0, .int .i64 code]) ∧ Below w.heap.size w w' := by
 have HS := hid HS
 go_enter Tryz.func30, Tryz.ntmps30
 go_wp2_with fail
 refine Calls.mono HS.out ?_
 rintro e w1 ⟨rfl, b1⟩
 have B1 := hid b1
 clear b1 HS
 go_wp2
 go_ret2
 exact ⟨rfl, B1.out⟩
set_option maxRecDepth 100000 in
set_option maxHeartbeats 4000000 in
theorem sbegin_no {w : World} {v : Value} {code : Int} (HS : Calls Tryz.prog 37 #[v] w fun e w' => e = .returned (.int .i64 code) ∧ Below w.heap.size w w') (hc : (code != 0) = true) : Calls Tryz.prog 9 #[v] w fun e w' => e = .returned (.tuple #[.pointer none, .int .i64 code]) ∧ Below w.heap.size w w' := by
 have HS := hid HS
 go_enter Tryz.func9, Tryz.ntmps9
 go_wp2_with fail
 refine Calls.mono HS.out ?_
 rintro e w1 ⟨rfl, b1⟩
 have B1 := hid b1
 clear b1 HS
 go_wp2
 go_ret2
 exact ⟨rfl, B1.out⟩
set_option maxRecDepth 100000 in
set_option maxHeartbeats 4000000 in
theorem tread_no {w : World} {v : Value} {code : Int} (HS : Calls Tryz.prog 40 #[v] w fun e w' => e = .returned (.int .i64 code) ∧ Below w.heap.size w w') (hc : (code != 0) = true) (y : Int) : Calls Tryz.prog 47 #[v, .int .i64 y] w fun e w' => e = .returned (.tuple #[.slice none 0 0, .int .i64 code]) ∧ Below w.heap.size w w' := by
 have HS := hid HS
 go_enter Tryz.func47, Tryz.ntmps47
 go_wp2_with fail
 refine Calls.mono HS.out ?_
 rintro e w1 ⟨rfl, b1⟩
 have B1 := hid b1
 clear b1 HS
 go_wp2
 go_ret2
 exact ⟨rfl, B1.out⟩
set_option maxRecDepth 100000 in
set_option maxHeartbeats 4000000 in
theorem twrite_no {w : World} {v : Value} {code : Int} (HS : Calls Tryz.prog 40 #[v] w fun e w' => e = .returned (.int .i64 code) ∧ Below w.heap.size w w') (hc : (code != 0) = true) (y : Int) (dv : Value) : Calls Tryz.prog 52 #[v, .int .i64 y, dv] w fun e w' => e = .returned (.int .i64 code) ∧ Below w.heap.size w w' := by
 have HS := hid HS
 go_enter Tryz.func52, Tryz.ntmps52
 go_wp2_with fail
 refine Calls.mono HS.out ?_
 rintro e w1 ⟨rfl, b1⟩
 have B1 := hid b1
 clear b1 HS
 go_wp2
 go_ret
 exact ⟨rfl, B1.out⟩
set_option maxRecDepth 100000 in
set_option maxHeartbeats 4000000 in
theorem sbegin_open {Z : Nat → Prop} {w : World} {j c p room nb K fr bl : Nat} {d : Pd} {s : Js} (h : Jq Z w j c p room nb K fr bl d s) (hon : d.off = false) {st : Nat} {a : Addr} (hs : Stb w st j (.pointer (some a))) : Calls Tryz.prog 9 #[.pointer (some ⟨st, 0, none⟩)] w fun e w' => e = .returned (.tuple #[.pointer none, .int .i64 50]) ∧ Below w.heap.size w w' := by
 have H := hid (sask_any h hs)
 rw [hon] at H
 have HC : Hid (∀ w', Below w.heap.size w w' → w'.cell? ⟨st, 2, none⟩ = some (.pointer (some a))) := fun w' b => (b.cell (p := ⟨st, 2, none⟩) hs.lt).trans (hs.cell 2)
 clear h hs
 go_enter Tryz.func9, Tryz.ntmps9
 go_wp2_with fail
 refine Calls.mono H.out ?_
 rintro e w1 ⟨rfl, b1⟩
 have c3 := HC.out w1 b1
 have B1 := hid b1
 clear b1 H HC
 go_wp2
 go_ret2
 exact ⟨rfl, B1.out⟩
open Go.RowKit Go.Deep
theorem Wq.lows {Zw : Nat → Prop} {w w' : World} {x j m n nb fr bl : Nat} {D : DataW (Nat × Nat × Int)} {a : Nat → Option (Nat × Nat × Int)} {sv mv : Value} {L : Nat → Option (List Int)} (hW : Wq Zw w x j m n nb fr bl D a sv mv L) (b : Below w.heap.size w w') : Wq Zw w' x j m n nb fr bl D a sv mv L := hW.keep (fun k _ hk => b.block k hk)
set_option maxRecDepth 100000 in
set_option maxHeartbeats 4000000 in
theorem look_wfar {Z : Nat → Prop} {w : World} {j c p room nb K fr bl : Nat} {d : Pd} {s : Js} (h : Jq Z w j c p room nb K fr bl d s) {Zw : Nat → Prop} {x m n : Nat} {D : DataW (Nat × Nat × Int)} {a : Nat → Option (Nat × Nat × Int)} {sv mv : Value} {L : Nat → Option (List Int)} (hW : Wq Zw w x j m n nb fr bl D a sv mv L) (h1 : fr + bl ≤ nb) (hon : d.off = false) (y : Int) (hy1 : -9223372036854775808 ≤ y) (hy2 : y ≤ 9223372036854775807) (hh : homeC nb fr bl y ≠ 0) {b : Nat} (hc : w.cell? ⟨b, 1, none⟩ = some (.iface 83 (.pointer (some ⟨x, 0, none⟩)))) : Calls Tryz.prog 62 #[.pointer (some ⟨b, 0, none⟩), .int .i64 y] w fun e w' => e = .returned (.tuple #[.slice none 0 0, .int .i64 42]) ∧ Below w.heap.size w w' := by
 have H := hid (wread_far h hW h1 hon y hy1 hy2 hh)
 clear h hW hh
 go_enter Tryz.func62, Tryz.ntmps62
 go_wp2_with (rw [readW])
 refine Calls.mono H.out ?_
 rintro e w1 ⟨rfl, b1⟩
 have B1 := hid b1
 clear b1 H
 go_wp2
 go_ret2
 exact ⟨rfl, B1.out⟩
set_option maxRecDepth 100000 in
set_option maxHeartbeats 4000000 in
theorem twrite_far {Z : Nat → Prop} {w : World} {j c p room nb K fr bl : Nat} {d : Pd} {s : Js} (h : Jq Z w j c p room nb K fr bl d s) {Zw : Nat → Prop} {x m n : Nat} {D : DataW (Nat × Nat × Int)} {a : Nat → Option (Nat × Nat × Int)} {sv mv : Value} {L : Nat → Option (List Int)} (hW : Wq Zw w x j m n nb fr bl D a sv mv L) (h1 : fr + bl ≤ nb) (hon : d.off = false) (y : Int) (hy1 : -9223372036854775808 ≤ y) (hy2 : y ≤ 9223372036854775807) (hh : homeC nb fr bl y ≠ 0) {t st : Nat} (ht : Txb w t j (.iface 83 (.pointer (some ⟨x, 0, none⟩))) st (.pointer (some ⟨x, 0, none⟩))) (hs : Stb w st j (.pointer (some ⟨t, 0, none⟩))) (dv : Value) : Calls Tryz.prog 52 #[.pointer (some ⟨t, 0, none⟩), .int .i64 y, dv] w fun e w' => e = .returned (.int .i64 42) ∧ Below w.heap.size w w' := by
 have HA := hid (task_open h hon ht hs)
 have HL : Hid (∀ w1, Below w.heap.size w w1 → Calls Tryz.prog 62 #[.pointer (some ⟨t, 0, none⟩), .int .i64 y] w1 fun e w' => e = .returned (.tuple #[.slice none 0 0, .int .i64 42]) ∧ Below w.heap.size w w') := fun w1 b1 => by
  refine Calls.mono (look_wfar (h.below b1) (hW.lows b1) h1 hon y hy1 hy2 hh (b := t) ((b1.cell (p := ⟨t, 1, none⟩) ht.lt).trans (ht.cell 1))) ?_
  rintro e w' ⟨q1, q2⟩
  exact ⟨q1, b1.trans (q2.mono b1.size)⟩
 clear h hs hh ht hW
 go_enter Tryz.func52, Tryz.ntmps52
 go_wp2_with fail
 refine Calls.mono HA.out ?_
 rintro e w1 ⟨rfl, b1⟩
 have HL1 := hid (HL.out w1 b1)
 clear b1 HA HL
 go_wp2_with fail
 refine Calls.mono HL1.out ?_
 rintro e w3 ⟨rfl, q⟩
 have FIN := hid q
 clear q HL1
 go_wp2
 go_ret
 exact ⟨rfl, FIN.out⟩
set_option maxRecDepth 100000 in
set_option maxHeartbeats 4000000 in
theorem twrite_len {Z : Nat → Prop} {w : World} {j c p room nb K fr bl : Nat} {d : Pd} {s : Js} (h : Jq Z w j c p room nb K fr bl d s) {Zw : Nat → Prop} {x m n : Nat} {D : DataW (Nat × Nat × Int)} {a : Nat → Option (Nat × Nat × Int)} {sv mv : Value} {L : Nat → Option (List Int)} (hW : Wq Zw w x j m n nb fr bl D a sv mv L) (h1 : fr + bl ≤ nb) (hon : d.off = false) (hl : d.puts.length ≤ 1073741824) (hK : K < 4611686018427387904) (hnb : nb ≤ 524288) (y : Nat) (hy : y < nb) (hh : homeC nb fr bl (y : Int) = 0) {t st : Nat} (ht : Txb w t j (.iface 83 (.pointer (some ⟨x, 0, none⟩))) st (.pointer (some ⟨x, 0, none⟩))) (hs : Stb w st j (.pointer (some ⟨t, 0, none⟩))) (xa : Option Addr) (xn xc : Nat) (hx : xn ≠ 512) : Calls Tryz.prog 52 #[.pointer (some ⟨t, 0, none⟩), .int .i64 (y : Int), .slice xa xn xc] w fun e w' => e = .returned (.int .i64 43) ∧ (∃ Z', Jq Z' w' j c p room nb (K + 1) fr bl d s ∧ Gr Z Z' w) ∧ But Z w w' := by
 have HA := hid (task_open h hon ht hs)
 have HL : Hid (∀ w1, Below w.heap.size w w1 → Calls Tryz.prog 62 #[.pointer (some ⟨t, 0, none⟩), .int .i64 (y : Int)] w1 (RdH (fun k => Z k ∧ k < w.heap.size) w1 j c p room nb K fr bl d s ((L y).getD (jread d s y)))) := fun w1 b1 => look_w (h.cut.below b1) (hW.lows b1) h1 hon hl hK hnb y hy hh ((b1.cell (p := ⟨t, 1, none⟩) ht.lt).trans (ht.cell 1))
 have HP : Hid (∀ w1 e w', Below w.heap.size w w1 → RdH (fun k => Z k ∧ k < w.heap.size) w1 j c p room nb K fr bl d s ((L y).getD (jread d s y)) e w' → (∃ Z', Jq Z' w' j c p room nb (K + 1) fr bl d s ∧ Gr Z Z' w) ∧ But Z w w') := fun w1 e w' b q => by
  obtain ⟨g, cp, _, _, _, _, ⟨Z', q5, q6, _⟩, q8⟩ := q.low b
  exact ⟨⟨Z', q5, q6⟩, q8⟩
 have hq : ((xn : Int) != 512) = true := by simp; omega
 clear h hs ht hW hx
 go_enter Tryz.func52, Tryz.ntmps52
 go_wp2_with fail
 refine Calls.mono HA.out ?_
 rintro e w1 ⟨rfl, b1⟩
 have HL1 := hid (HL.out w1 b1)
 have HP1 := hid (fun e w' => HP.out w1 e w' b1)
 clear b1 HA HL HP
 go_wp2_with fail
 refine Calls.mono HL1.out ?_
 rintro e w3 q
 obtain ⟨g3, cp3, rfl, _⟩ := id q
 have FIN := hid (HP1.out _ w3 q)
 clear q HL1 HP1
 go_wp2
 go_ret
 exact ⟨rfl, FIN.out⟩
theorem info83 : (Tryz.prog.info? 82).map (fun i => i.size) = some 3 := by kernel_rfl
theorem neq_ssame (w : World) (a : Addr) : (binOp .neq 29 (.pointer (some a)) (.pointer (some a))).run Tryz.prog w = .ok (.bool false) w := by
 obtain ⟨j, hj, _⟩ := Option.map_eq_some_iff.1 info83
 have h : ∀ d : Nat, (Op.equalIn (d + 1) 29 (.pointer (some a)) (.pointer (some a))).run Tryz.prog w = .ok true w := fun d => by
  simp [Op.equalIn, run_underlying Tryz.underlying29, sizeOf, typeInfo, hj, run_sameAddr_same]
 simp only [binOp]
 simp [Op.equal, Op.maxDepth, h 9999]
set_option maxRecDepth 100000 in
set_option maxHeartbeats 4000000 in
theorem sowns_nil (w : World) (a : Addr) : Calls Tryz.prog 93 #[.pointer (some a), .pointer none] w fun e w' => e = .returned (.int .i64 1) ∧ Below w.heap.size w w' := by
 have B : Hid (Below w.heap.size w w) := Below.refl _ _
 go_enter Tryz.func93, Tryz.ntmps93
 go_wp2
 go_ret
 exact ⟨rfl, B.out⟩
set_option maxRecDepth 100000 in
set_option maxHeartbeats 4000000 in
theorem sowns_off {Z : Nat → Prop} {w : World} {j c p room nb K fr bl : Nat} {d : Pd} {s : Js} (h : Jq Z w j c p room nb K fr bl d s) (hoff : d.off = true) {st : Nat} {tv : Value} (hs : Stb w st j tv) (a : Addr) : Calls Tryz.prog 93 #[.pointer (some ⟨st, 0, none⟩), .pointer (some a)] w fun e w' => e = .returned (.int .i64 24) ∧ Below w.heap.size w w' := by
 have HA := hid (sask_any h hs)
 rw [hoff] at HA
 clear h hs
 go_enter Tryz.func93, Tryz.ntmps93
 go_wp2_with fail
 refine Calls.mono HA.out ?_
 rintro e w1 ⟨rfl, b1⟩
 have B1 := hid b1
 clear b1 HA
 go_wp2
 go_ret
 exact ⟨rfl, B1.out⟩
set_option maxRecDepth 100000 in
set_option maxHeartbeats 4000000 in
theorem sowns_own {Z : Nat → Prop} {w : World} {j c p room nb K fr bl : Nat} {d : Pd} {s : Js} (h : Jq Z w j c p room nb K fr bl d s) (hon : d.off = false) {st : Nat} {tv : Value} (hs : Stb w st j tv) {t : Nat} {fv wv : Value} (ht : Txb w t j fv st wv) {code : Int} (HT : ∀ w', Below w.heap.size w w' → Calls Tryz.prog 40 #[.pointer (some ⟨t, 0, none⟩)] w' fun e w2 => e = .returned (.int .i64 code) ∧ Below w'.heap.size w' w2) : Calls Tryz.prog 93 #[.pointer (some ⟨st, 0, none⟩), .pointer (some ⟨t, 0, none⟩)] w fun e w' => e = .returned (.int .i64 code) ∧ Below w.heap.size w w' := by
 have HA := hid (sask_any h hs)
 rw [hon] at HA
 have HC : Hid (∀ w', Below w.heap.size w w' → w'.cell? ⟨t, 2, none⟩ = some (.pointer (some ⟨st, 0, none⟩))) := fun w' b => (b.cell (p := ⟨t, 2, none⟩) ht.lt).trans (ht.cell 2)
 have HT := hid HT
 clear h hs ht
 go_enter Tryz.func93, Tryz.ntmps93
 go_wp2_with fail
 refine Calls.mono HA.out ?_
 rintro e w1 ⟨rfl, b1⟩
 have c2 := HC.out w1 b1
 have hq := neq_ssame w1 ⟨st, 0, none⟩
 have HT1 := hid (HT.out w1 b1)
 have B1 := hid b1
 clear b1 HA HC HT
 go_wp2_with fail
 refine Calls.mono HT1.out ?_
 rintro e w2 ⟨rfl, b2⟩
 have B2 := hid (B1.out.trans (b2.mono B1.out.size))
 clear b2 HT1 B1
 go_wp2
 go_ret
 exact ⟨rfl, B2.out⟩
abbrev Wr := Nat × Nat × Int
abbrev Sp := Nat × Option Wr
abbrev Mr := Nat × (Nat → Option Wr)
def undo (ss : List Sp) (a : Nat → Option Wr) : Nat → Option Wr := fun y => match ss.find? (fun s => s.1 == y) with
 | some s => s.2
 | none => a y
def back1 (s : Sp) (a : Nat → Option Wr) : Nat → Option Wr := fun y => if y = s.1 then s.2 else a y
theorem undo_snoc (ss : List Sp) (s : Sp) (a : Nat → Option Wr) : undo (ss ++ [s]) a = undo ss (back1 s a) := by
 funext y
 unfold undo back1
 rw [List.find?_append]
 cases h : ss.find? (fun s => s.1 == y) with
 | some t => rfl
 | none =>
  simp only [Option.none_or, List.find?_cons, List.find?_nil]
  by_cases e : s.1 = y
  ·simp [e]
  ·have : (s.1 == y) = false := by simpa using e
   rw [this]
   simp [Ne.symm e]
theorem undo_put {ss : List Sp} {y : Nat} (h : ∃ s ∈ ss, s.1 = y) (a : Nat → Option Wr) (r : Option Wr) : undo ss (fun z => if z = y then r else a z) = undo ss a := by
 funext z
 unfold undo
 cases h2 : ss.find? (fun s => s.1 == z) with
 | some t => rfl
 | none =>
  obtain ⟨s, hs, e⟩ := h
  have := List.find?_eq_none.1 h2 s hs
  have hz : z ≠ y := fun q => this (by simp [q, e])
  simp [hz]
theorem undo_step (ss : List Sp) (y : Nat) (a : Nat → Option Wr) (r : Option Wr) : undo (ss ++ [(y, a y)]) (fun z => if z = y then r else a z) = undo ss a := by
 rw [undo_snoc]
 congr 1
 funext z
 unfold back1
 by_cases e : z = y
 ·simp [e]
 ·simp [e]
structure Mk (a : Nat → Option Wr) (ss : List Sp) (ms : List Mr) : Prop where
 le : ∀ y g cp k, a y = some (g, cp, k) → 0 ≤ k ∧ k ≤ (ms.length : Int)
 pos : ∀ (i p : Nat) (b : Nat → Option Wr), ms[i]? = some (p, b) → p ≤ ss.length ∧ undo (ss.drop p) a = b ∧ ∀ y g cp k, b y = some (g, cp, k) → 0 ≤ k ∧ k ≤ (i : Int)
 mono : ∀ (i p : Nat) (b : Nat → Option Wr) (i' p' : Nat) (b' : Nat → Option Wr), ms[i]? = some (p, b) → ms[i']? = some (p', b') → i ≤ i' → p ≤ p'
 now : ∀ y g cp k, a y = some (g, cp, k) → k = (ms.length : Int) → 0 < ms.length → ∀ (i p : Nat) (b : Nat → Option Wr), ms[i]? = some (p, b) → ∃ s ∈ ss.drop p, s.1 = y
theorem Mk.nil : Mk (fun _ => none) [] [] := ⟨(fun _ _ _ _ e => by cases e), (fun i p b e => by simp at e), (fun i p b i' p' b' e => by simp at e), (fun _ _ _ _ e => by cases e)⟩
theorem Mk.lay0 {a : Nat → Option Wr} {ss : List Sp} {ms : List Mr} (h : Mk a ss ms) {y g cp : Nat} (hc : ms = [] ∨ ∃ g' cp', a y = some (g', cp', (ms.length : Int))) : Mk (fun z => if z = y then some (g, cp, (ms.length : Int)) else a z) ss ms := by
 have hst : ms = [] ∨ ∀ (i p : Nat) (b : Nat → Option Wr), ms[i]? = some (p, b) → ∃ s ∈ ss.drop p, s.1 = y := by
  rcases hc with e | ⟨g', cp', e⟩
  ·exact .inl e
  ·by_cases q : ms = []
   ·exact .inl q
   ·exact .inr (fun i p b ei => h.now y g' cp' _ e rfl (List.length_pos_iff.2 q) i p b ei)
 refine ⟨fun z g2 cp2 k e => ?_, fun i p b e => ?_, h.mono, fun z g2 cp2 k e ek hp i p b ei => ?_⟩
 ·by_cases q : z = y
  ·simp [q] at e
   obtain ⟨_, _, rfl⟩ := e
   omega
  ·simp [q] at e
   exact h.le z g2 cp2 k e
 ·rcases hst with q | q
  ·rw [q] at e; simp at e
  ·obtain ⟨h1, h2, h3⟩ := h.pos i p b e
   exact ⟨h1, by rw [undo_put (q i p b e)]; exact h2, h3⟩
 ·rcases hst with q | q
  ·rw [q] at ei; simp at ei
  ·by_cases r : z = y
   ·rw [r]; exact q i p b ei
   ·simp [r] at e
    exact h.now z g2 cp2 k e ek hp i p b ei
theorem Mk.lay1 {a : Nat → Option Wr} {ss : List Sp} {ms : List Mr} (h : Mk a ss ms) (y g cp : Nat) : Mk (fun z => if z = y then some (g, cp, (ms.length : Int)) else a z) (ss ++ [(y, a y)]) ms := by
 refine ⟨fun z g2 cp2 k e => ?_, fun i p b e => ?_, h.mono, fun z g2 cp2 k e ek hp i p b ei => ?_⟩
 ·by_cases q : z = y
  ·simp [q] at e
   obtain ⟨_, _, rfl⟩ := e
   omega
  ·simp [q] at e
   exact h.le z g2 cp2 k e
 ·obtain ⟨h1, h2, h3⟩ := h.pos i p b e
  refine ⟨by simp; omega, ?_, h3⟩
  rw [List.drop_append_of_le_length h1, undo_step]
  exact h2
 ·have h1 := (h.pos i p b ei).1
  rw [List.drop_append_of_le_length h1]
  by_cases r : z = y
  ·exact ⟨(y, a y), by simp, r.symm⟩
  ·simp [r] at e
   obtain ⟨s, hs, es⟩ := h.now z g2 cp2 k e ek hp i p b ei
   exact ⟨s, by simp [hs], es⟩
open Go.RowKit Go.Deep
def Xb (w : World) (x j m : Nat) (sv mv : Value) : Prop := w.heap[x]? = some (.cells #[.iface 76 (.pointer (some ⟨j, 0, none⟩)), .map (some m), sv, mv] 135 (0, 0))
theorem Xb.lt {w : World} {x j m : Nat} {sv mv : Value} (h : Xb w x j m sv mv) : x < w.heap.size := (Array.getElem?_eq_some_iff.1 h).1
theorem Xb.cell {w : World} {x j m : Nat} {sv mv : Value} (h : Xb w x j m sv mv) (t : Nat) : w.cell? ⟨x, t, none⟩ = #[.iface 76 (.pointer (some ⟨j, 0, none⟩)), .map (some m), sv, mv][t]? := by
 unfold Xb at h
 simp [World.cell?, h]
theorem Xb.frozen {w : World} {x j m : Nat} {sv mv : Value} (h : Xb w x j m sv mv) (t : Nat) : w.frozen? ⟨x, t, none⟩ = false := by
 unfold Xb at h
 simp [World.frozen?, h]
theorem Xb.keep {w w' : World} {x j m : Nat} {sv mv : Value} (h : Xb w x j m sv mv) (hk : w'.heap[x]? = w.heap[x]?) : Xb w' x j m sv mv := hk.trans h
theorem Xb.set2 {w : World} {x j m : Nat} {sv mv : Value} (h : Xb w x j m sv mv) (v : Value) : Xb (w.setCell ⟨x, 2, none⟩ v) x j m v mv := by
 unfold Xb at h ⊢
 simp only [World.setCell, Array.getElem?_modify]
 rw [h]
 simp
theorem news1 (w : World) (u : Value) (t : TypeId) : ∀ j y, [u][j]? = some y → (w.alloc (.cells #[u] t)).cell? ((⟨w.heap.size, 0, none⟩ : Addr).add j) = some y := by
 intro j y hy
 match j, hy with
 | 0, hy =>
  have : u = y := by simpa using hy
  subst this
  rw [Addr.add_lit]
  exact cell_new rfl 0 _ rfl
 | j + 1, hy => simp at hy
theorem row_ne_x {w : World} {base e n k x j m : Nat} {v sv mv : Value} {xs : List Value} (h : w.ownsRow base e 1 v n xs) (hx : Xb w x j m sv mv) (he : e ≠ 135) (hk : v.ownBlock = some k) : k ≠ x := fun q => by
 subst q
 rcases h.2 with ⟨rfl, _⟩ | ⟨g, cap, cur, rfl, _, hg, _⟩
 ·simp [Value.ownBlock] at hk
 ·have : g = k := by simpa [Value.ownBlock] using hk
  subst this
  unfold Xb at hx
  rw [hx] at hg
  injection hg with hg
  injection hg with _ hg
  exact he hg.symm
end Go.Proofs.YtlefjidbpjkhlaaGreat
